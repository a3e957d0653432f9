/- find: the numbers by a value, of the law. -/
import Derived.Test.YtgjeobmbfeinnaaDos
namespace Go.Proofs.Ytgjeobmbfeinnaa
open Go.ChangeShapes Go.WideShapes Go.RowKit
set_option linter.unusedVariables false
set_option maxRecDepth 100000

/-- Whether two values are others. -/
theorem other_run (x y : Val) (w : World) : (binOp .neq 24 x.v y.v).run Try.prog w = .ok (.bool (!decide (x = y))) w := by
  obtain ⟨k, n, s⟩ := x
  obtain ⟨k', n', s'⟩ := y
  show (binOp .neq 24 (vv k n s) (vv k' n' s')).run Try.prog w = _
  have hs : s = s' ↔ s.toList = s'.toList := ⟨fun e => by rw [e], byte_inj⟩
  simp [go_sem]
  by_cases h1 : k = k' <;> by_cases h2 : n = n' <;> by_cases h3 : s.toList = s'.toList <;> simp [h1, h2, h3, hs]
theorem fnd_take {m : List Pr} {v : Val} {i : Nat} {p : Pr} (h : m[i]? = some p) : fnd (m.take (i + 1)) v = if p.v = v then ins p.n (fnd (m.take i) v) else fnd (m.take i) v := by
  unfold fnd
  rw [take_succ h, List.foldl_append, List.foldl_cons, List.foldl_nil]
theorem fnd_len (m : List Pr) (v : Val) (i : Nat) : (fnd (m.take i) v).length ≤ i := by
  induction i with
  | zero => simp [fnd]
  | succ i ih =>
    by_cases c : i < m.length
    · rw [fnd_take (List.getElem?_eq_getElem c)]
      split
      · rw [ins_len]; omega
      · omega
    · rw [List.take_of_length_le (by omega)] at ih ⊢
      omega
/-- A number among others: three lists, one behind the other, in new memory. -/
theorem ins_run {w : World} {va : Option Addr} {L vc : Nat} {out : List Int} (h : Sl iv 1 w (.slice va L vc) out) (n : Int) (hl : out.length ≤ 900) :
    ∃ v1 w1 v2 w2, (Builtin.append_ #[36, 36] 36 #[.slice none 0 0, .slice va (lo out n) vc]).run Try.prog w = .ok v1 w1 ∧ Below w.heap.size w w1 ∧ (Builtin.append_ #[36, 36] 36 #[v1, .slice (some ⟨w1.heap.size, 0, none⟩) 1 1]).run Try.prog (w1.alloc (.cells #[.int .i64 n] 3)) = .ok v2 w2 ∧ ∀ u, Sl iv 1 w u (out.drop (lo out n)) → ∃ v3 w3, (Builtin.append_ #[36, 36] 36 #[v2, u]).run Try.prog w2 = .ok v3 w3 ∧ Sl iv 1 w3 v3 (ins n out) ∧ Below w.heap.size w w3 := by
  have hK := lo_le out n
  obtain ⟨v1, w1, a1, a2, a3, a4⟩ := appN_is (w := w) (v := .slice none 0 0) (l := []) (l' := out.take (lo out n)) (World.ownsRow_nil _ _ _ _) (.slice va (lo out n) vc) (h.head _ hK) (by rw [List.nil_append, List.length_take]; omega)
  have b1 : Below w.heap.size w w1 := (Below.refl w.heap.size w).grown a3 (Nat.le_refl _) (fun q hq => by cases hq)
  have o1 : ∀ g, v1.ownBlock = some g → w.heap.size ≤ g := fun g hg => by
    rcases a4 with e | e
    · rw [e] at hg; cases hg
    · rw [e] at hg; cases hg; exact Nat.le_refl _
  rw [List.nil_append] at a2
  have bl := below1 w1 (.cells #[.int .i64 n] 3)
  have b2 : Below w.heap.size w (w1.alloc (.cells #[.int .i64 n] 3)) := Below.trans b1 (bl.mono b1.size)
  have a2' := ownsRow_kept a2 (fun g hg => bl.block g (World.ownsRow.lt a2 g hg).2)
  obtain ⟨v2, w2, c1, c2, c3, c4⟩ := appN_is (l' := [n]) a2' (.slice (some ⟨w1.heap.size, 0, none⟩) 1 1) ⟨some ⟨w1.heap.size, 0, none⟩, 1, rfl, rw_lit iv_len (CellsF.new w1 [.int .i64 n] 3 (by simp)), Nat.le_refl _, fun e => by cases e⟩ (by rw [List.length_append, List.length_take]; simp; omega)
  have b3 : Below w.heap.size w w2 := b2.grown c3 b2.size o1
  have o2 : ∀ g, v2.ownBlock = some g → w.heap.size ≤ g := fun g hg => by
    rcases c4 with e | e
    · rw [e] at hg; exact o1 g hg
    · rw [e] at hg; cases hg; exact b2.size
  refine ⟨v1, w1, v2, w2, a1, b1, c1, fun u hu => ?_⟩
  obtain ⟨v3, w3, d1, d2, d3, d4⟩ := appN_is c2 u (hu.next iv_ne b3) (by rw [List.length_append, List.length_append, List.length_take, List.length_drop]; simp; omega)
  refine ⟨v3, w3, d1, ?_, b3.grown d3 b3.size o2⟩
  have := own_rw iv_len d2
  unfold ins
  rwa [List.append_assoc, List.singleton_append] at this
set_option maxHeartbeats 8000000 in
theorem fndC_is (a : Option Addr) (cc : Nat) (l : List Pr) (hl : l.length ≤ 900) (x : Val) (w : World) (hu : Sl pv 4 w (.slice a l.length cc) l) :
    Calls Try.prog 14 #[.slice a l.length cc, x.v] w fun e w' => ∃ v', e = .returned v' ∧ Sl iv 1 w' v' (fnd l x) ∧ Below w.heap.size w w' := by
  have HSL : Hid (Sl pv 4 w (.slice a l.length cc) l) := hu
  obtain ⟨N, hN⟩ : ∃ N, l.length = N := ⟨_, rfl⟩
  have HN : Hid (l.length = N) := hN
  rw [hN] at hl HSL ⊢
  have HA0 : Hid (At (w.alloc (.cells #[.int .i64 x.k, .int .i64 x.n, .string x.s] 24)) w.heap.size 0 x.k x.n x.s ∧ Below w.heap.size w (w.alloc (.cells #[.int .i64 x.k, .int .i64 x.n, .string x.s] 24))) := ⟨At.new w x.k x.n x.s, below1 _ _⟩
  clear hN hu
  go_enter Try.func14, Try.ntmps14
  go_wp2_with fail
  go_loopw [5, 6] (fun v5 v6 wr => ∃ (i : Nat) (vv : Value), i ≤ N ∧ vv = v5 ∧ v6 = .int .i64 i ∧ Hid (Sl iv 1 wr vv (fnd (l.take i) x) ∧ Below w.heap.size w wr ∧ At wr w.heap.size 0 x.k x.n x.s ∧ (fnd (l.take i) x = [] → vv = .slice none 0 0)))
    (fun _ v6 _ => N - (intOf v6).toNat)
  case atStart => exact ⟨0, _, Nat.zero_le _, rfl, rfl, Sl.nil _ _ _, HA0.out.2, HA0.out.1, fun _ => rfl⟩
  case round =>
    clear HA0
    obtain ⟨i, vv, hi, rfl, rfl, HI⟩ := hrel
    by_cases hlt : i < N
    · have hlti : (i : Int) < (N : Int) := by omega
      have hil : i < l.length := by have := HN.out; omega
      obtain ⟨b, o, c', hv, hc', hb, hcs⟩ := HSL.out.prs (fun e => by rw [e] at hil; simp at hil)
      rw [HN.out] at hv
      cases hv
      obtain ⟨z0, z1, z2, z3⟩ := hcs i hil
      have hblk := HI.out.2.1.block b hb
      have y0 := (World.cell?_of_block (a := ⟨b, o + i * 4, none⟩) hblk).trans z0
      have y1 := (World.cell?_of_block (a := ⟨b, o + i * 4 + 1, none⟩) hblk).trans z1
      have y2 := (World.cell?_of_block (a := ⟨b, o + i * 4 + 2, none⟩) hblk).trans z2
      have y3 := (World.cell?_of_block (a := ⟨b, o + i * 4 + 3, none⟩) hblk).trans z3
      have HY3 : Hid (wr.cell? ⟨b, o + i * 4 + 3, none⟩ = some (.int .i64 l[i].n) ∧ b < wr.heap.size) := ⟨y3, Nat.lt_of_lt_of_le hb (by have := HI.out.2.1.size; exact this)⟩
      have a0 := HI.out.2.2.1.c0
      have a1 := HI.out.2.2.1.c1
      have a2 := HI.out.2.2.1.c2
      have hE : ∀ w, (binOp .neq 24 (.agg #[.int .i64 l[i].v.k, .int .i64 l[i].v.n, .string l[i].v.s]) (.agg #[.int .i64 x.k, .int .i64 x.n, .string x.s])).run Try.prog w = .ok (.bool (!decide (l[i].v = x))) w := fun w => other_run l[i].v x w
      obtain ⟨sm, hsm⟩ : ∃ sm, (!decide (l[i].v = x)) = sm := ⟨_, rfl⟩
      rw [hsm] at hE
      have HSM : Hid ((!decide (l[i].v = x)) = sm) := hsm
      have HFT : Hid (fnd (l.take (i + 1)) x = if l[i].v = x then ins l[i].n (fnd (l.take i) x) else fnd (l.take i) x) := fnd_take (List.getElem?_eq_getElem hil)
      have HFL : Hid ((fnd (l.take i) x).length ≤ 900) := Nat.le_trans (fnd_len l x i) (by omega)
      have HID : Hid (∀ nq, Below wr.heap.size wr (wr.drewN nq)) := fun nq => ⟨rfl, rfl, rfl, Nat.le_refl _, fun _ _ => rfl⟩
      obtain ⟨va, vc, hvv⟩ := slices_shape HI.out.1
      obtain ⟨out, hout⟩ : ∃ out, fnd (l.take i) x = out := ⟨_, rfl⟩
      rw [hout] at HI HFT HFL hvv
      obtain ⟨L, hL⟩ : ∃ L, out.length = L := ⟨_, rfl⟩
      rw [hL] at hvv
      have HOL : Hid (out.length = L) := hL
      have HLL : L ≤ 900 := by have := HFL.out; omega
      subst hvv
      generalize l[i] = q at *
      clear z0 z1 z2 z3 hcs hb hblk hil hsm hout hL y3
      go_wp2_with fail
      go_quiet (fail)
      have HB1 : Hid (Below wr.heap.size wr (wr.drewN nq)) := HID.out nq
      obtain ⟨wd, hwd⟩ : ∃ wd, wr.drewN nq = wd := ⟨_, rfl⟩
      rw [hwd] at HB1 ⊢
      have HI1 : Hid (Sl iv 1 wd (.slice va L vc) out ∧ Below w.heap.size w wd ∧ At wd w.heap.size 0 x.k x.n x.s ∧ (out = [] → (Value.slice va L vc) = .slice none 0 0) ∧ wd.cell? ⟨b, o + i * 4 + 3, none⟩ = some (.int .i64 q.n) ∧ b < wd.heap.size) := ⟨HI.out.1.next iv_ne HB1.out, Below.next HI.out.2.1 HB1.out, HI.out.2.2.1.next HB1.out, HI.out.2.2.2, (HB1.out.cell (p := ⟨b, o + i * 4 + 3, none⟩) HY3.out.2).trans HY3.out.1, Nat.lt_of_lt_of_le HY3.out.2 HB1.out.size⟩
      clear HI HID HB1 HY3 y0 y1 y2 a0 a1 a2 hE hwd
      cases hsm : sm with
      | true =>
        have hne : ¬ q.v = x := by have := HSM.out; rw [hsm] at this; simpa using this
        have HE : Hid (Sl iv 1 wd (.slice va L vc) (fnd (l.take (i + 1)) x) ∧ Below w.heap.size w wd ∧ At wd w.heap.size 0 x.k x.n x.s ∧ (fnd (l.take (i + 1)) x = [] → (Value.slice va L vc) = .slice none 0 0)) := ⟨by rw [HFT.out, if_neg hne]; exact HI1.out.1, HI1.out.2.1, HI1.out.2.2.1, by rw [HFT.out, if_neg hne]; exact HI1.out.2.2.2.1⟩
        clear HSM HFT HFL HI1 hne hsm
        go_wp2_with fail
        go_roundw
        case rel => exact ⟨i + 1, _, by omega, rfl, by go_num, HE.out⟩
        case measure => simp [intOf]; omega
      | false =>
        have heq : q.v = x := by have := HSM.out; rw [hsm] at this; simpa using this
        have HFT2 : Hid (fnd (l.take (i + 1)) x = ins q.n out) := by show _ = _; rw [HFT.out, if_pos heq]
        obtain ⟨K, hK⟩ : ∃ K, lo out q.n = K := ⟨_, rfl⟩
        have HK : Hid (lo out q.n = K) := hK
        have hKL : K ≤ L := by rw [← hK, ← HOL.out]; exact lo_le _ _
        clear HSM HFT heq hsm hK
        go_wp2_with fail
        go_loopw [7] (fun v7 wi => ∃ k : Nat, k ≤ K ∧ v7 = .int .i64 k ∧ Hid (Below wd.heap.size wd wi))
          (fun v7 _ => L - (intOf v7).toNat)
        case atStart => exact ⟨0, Nat.zero_le _, rfl, Below.refl _ _⟩
        case round =>
          obtain ⟨k, hk, rfl, HBI⟩ := hrel
          have HSI : Hid (Sl iv 1 wr (.slice va L vc) out) := HI1.out.1.next iv_ne HBI.out
          have y3 := (HBI.out.cell (p := ⟨b, o + i * 4 + 3, none⟩) HI1.out.2.2.2.2.2).trans HI1.out.2.2.2.2.1
          have HBN : Hid (∀ nq, Below wd.heap.size wd (wr.drewN nq)) := fun nq => Below.next HBI.out ⟨rfl, rfl, rfl, Nat.le_refl _, fun _ _ => rfl⟩
          by_cases hkK : k < K
          · have hkL : (k : Int) < (L : Int) := by omega
            have hkl : k < out.length := by rw [HOL.out]; omega
            have hlo := lo_lt out q.n k hkl (by rw [HK.out]; exact hkK)
            obtain ⟨b2, o2, c2, hv2, hc2, hb2, hcs2⟩ := HSI.out.ints (fun e => by rw [e] at hkl; simp at hkl)
            rw [HOL.out] at hv2
            cases hv2
            have y4 := hcs2 k hkl
            generalize out[k] = z at *
            clear hcs2 hb2 hc2 HSI
            go_wp2_with fail
            go_quiet (fail)
            have HE : Hid (Below wd.heap.size wd (wr.drewN nq)) := HBN.out _
            go_wp2_with fail
            go_roundw
            case rel => exact ⟨k + 1, by omega, by go_num, HE.out⟩
            case measure => simp [intOf]; omega
          · obtain rfl : k = K := by omega
            have HEX : Hid (∀ nq, Sl iv 1 (wr.drewN nq) (.slice va L vc) out ∧ Below w.heap.size w (wr.drewN nq) ∧ At (wr.drewN nq) w.heap.size 0 x.k x.n x.s ∧ (wr.drewN nq).cell? ⟨b, o + i * 4 + 3, none⟩ = some (.int .i64 q.n) ∧ b < (wr.drewN nq).heap.size) := fun nq => ⟨HI1.out.1.next iv_ne (HBN.out nq), Below.next HI1.out.2.1 (HBN.out nq), HI1.out.2.2.1.next (HBN.out nq), ((HBN.out nq).cell (p := ⟨b, o + i * 4 + 3, none⟩) HI1.out.2.2.2.2.2).trans HI1.out.2.2.2.2.1, Nat.lt_of_lt_of_le HI1.out.2.2.2.2.2 (HBN.out nq).size⟩
            have HNI : Hid (out = [] → (Value.slice va L vc) = .slice none 0 0) := HI1.out.2.2.2.1
            have hpart : (k = L) ∨ (k < L ∧ ∃ b2 o2 z, va = some ⟨b2, o2, none⟩ ∧ wr.cell? ⟨b2, o2 + k, none⟩ = some (.int .i64 z) ∧ ¬ z < q.n) := by
              by_cases e : k = L
              · exact .inl e
              · refine .inr ⟨by omega, ?_⟩
                have hkl : k < out.length := by rw [HOL.out]; omega
                obtain ⟨b2, o2, c2, hv2, hc2, hb2, hcs2⟩ := HSI.out.ints (fun e => by rw [e] at hkl; simp at hkl)
                have := lo_at out q.n (by rw [HK.out]; exact hkl)
                refine ⟨b2, o2, out[k], (Value.slice.inj hv2).1, hcs2 k hkl, ?_⟩
                have e2 := HK.out
                simp only [e2] at this
                exact this
            clear HSI HBI
            rcases hpart with rfl | ⟨hkL0, b2, o2, z, rfl, y4, hz⟩
            · have hkL : ¬ (k : Int) < (k : Int) := by omega
              go_wp2_with fail
              go_quiet (fail)
              have HX : Hid (Sl iv 1 (wr.drewN nq) (.slice va k vc) out ∧ Below w.heap.size w (wr.drewN nq) ∧ At (wr.drewN nq) w.heap.size 0 x.k x.n x.s ∧ (wr.drewN nq).cell? ⟨b, o + i * 4 + 3, none⟩ = some (.int .i64 q.n) ∧ b < (wr.drewN nq).heap.size) := HEX.out nq
              obtain ⟨wx, hwx⟩ : ∃ wx, wr.drewN nq = wx := ⟨_, rfl⟩
              rw [hwx] at HX ⊢
              obtain ⟨v1, w1, v2, w2, r1, r2, r3, r4⟩ := ins_run HX.out.1 q.n (by rw [HOL.out]; exact HLL)
              rw [HK.out] at r1 r4
              clear hwx HEX
              have hkk : k ≤ out.length := by rw [HOL.out]; omega
              have HD : Hid (out.drop k = []) := List.drop_of_length_le (by rw [HOL.out]; omega)
              by_cases hk0 : k = 0
              · subst hk0
                have h0 := HNI.out (List.eq_nil_of_length_eq_zero HOL.out)
                obtain ⟨rfl, _, rfl⟩ := Value.slice.inj h0
                obtain ⟨v3, w3, s1, s2, s3⟩ := r4 (.slice none 0 0) (by rw [HD.out]; exact Sl.nil _ _ _)
                have y5 := (r2.cell (p := ⟨b, o + i * 4 + 3, none⟩) HX.out.2.2.2.2).trans HX.out.2.2.2.1
                have RA1 : Hid ((Builtin.append_ #[36, 36] 36 #[.slice none 0 0, .slice none 0 0]).run Try.prog wx = .ok v1 w1) := r1
                have RA2 : Hid ((Builtin.append_ #[36, 36] 36 #[v1, .slice (some ⟨w1.heap.size, 0, none⟩) 1 1]).run Try.prog (w1.alloc (.cells #[.int .i64 q.n] 3)) = .ok v2 w2) := r3
                have RA3 : Hid ((Builtin.append_ #[36, 36] 36 #[v2, (.slice none 0 0)]).run Try.prog w2 = .ok v3 w3) := s1
                have HE : Hid (Sl iv 1 w3 v3 (fnd (l.take (i + 1)) x) ∧ Below w.heap.size w w3 ∧ At w3 w.heap.size 0 x.k x.n x.s ∧ (fnd (l.take (i + 1)) x = [] → v3 = .slice none 0 0)) := ⟨by rw [HFT2.out]; exact s2, Below.next HX.out.2.1 s3, HX.out.2.2.1.next s3, fun e => by rw [HFT2.out] at e; have := ins_len q.n out; rw [e] at this; simp at this⟩
                clear r1 r2 r3 r4 s1 s2 s3 HX HFT2 HNI HK
                go_wp2_with (first | ((with_reducible apply st_append (x := .tmp 40)); (case ho => rfl); (case hgd => rfl); (case hr => exact RA1.out)) | ((with_reducible apply st_append (x := .tmp 45)); (case ho => rfl); (case hgd => rfl); (case hr => exact RA2.out)) | ((with_reducible apply st_append (x := .tmp 53)); (case ho => rfl); (case hgd => rfl); (case hr => exact RA3.out)))
                go_roundw
                case rel => exact ⟨i + 1, v3, by omega, rfl, by go_num, HE.out⟩
                case measure => simp [intOf]; omega
              · have hne : out ≠ [] := fun e => hk0 (by rw [← HOL.out, e]; rfl)
                obtain ⟨b2, o2, c2, hv2, hc2, hb2, hcs2⟩ := HX.out.1.ints hne
                rw [HOL.out] at hv2 hc2
                cases hv2
                have hkc : (k : Int) ≤ (vc : Int) := by omega
                clear hne hb2 hcs2
                by_cases hck : vc = k
                · subst hck
                  obtain ⟨v3, w3, s1, s2, s3⟩ := r4 (.slice (some ⟨b2, o2, none⟩) 0 0) (by rw [HD.out]; exact ⟨_, 0, rfl, Rw.nil _ _ _ _, Nat.le_refl _, fun _ => rfl⟩)
                  have y5 := (r2.cell (p := ⟨b, o + i * 4 + 3, none⟩) HX.out.2.2.2.2).trans HX.out.2.2.2.1
                  have RA1 : Hid ((Builtin.append_ #[36, 36] 36 #[.slice none 0 0, .slice (some ⟨b2, o2, none⟩) vc vc]).run Try.prog wx = .ok v1 w1) := r1
                  have RA2 : Hid ((Builtin.append_ #[36, 36] 36 #[v1, .slice (some ⟨w1.heap.size, 0, none⟩) 1 1]).run Try.prog (w1.alloc (.cells #[.int .i64 q.n] 3)) = .ok v2 w2) := r3
                  have RA3 : Hid ((Builtin.append_ #[36, 36] 36 #[v2, (.slice (some ⟨b2, o2, none⟩) 0 0)]).run Try.prog w2 = .ok v3 w3) := s1
                  have HE : Hid (Sl iv 1 w3 v3 (fnd (l.take (i + 1)) x) ∧ Below w.heap.size w w3 ∧ At w3 w.heap.size 0 x.k x.n x.s ∧ (fnd (l.take (i + 1)) x = [] → v3 = .slice none 0 0)) := ⟨by rw [HFT2.out]; exact s2, Below.next HX.out.2.1 s3, HX.out.2.2.1.next s3, fun e => by rw [HFT2.out] at e; have := ins_len q.n out; rw [e] at this; simp at this⟩
                  clear r1 r2 r3 r4 s1 s2 s3 HX HFT2 HNI HK
                  go_wp2_with (first | ((with_reducible apply st_append (x := .tmp 40)); (case ho => rfl); (case hgd => rfl); (case hr => exact RA1.out)) | ((with_reducible apply st_append (x := .tmp 45)); (case ho => rfl); (case hgd => rfl); (case hr => exact RA2.out)) | ((with_reducible apply st_append (x := .tmp 53)); (case ho => rfl); (case hgd => rfl); (case hr => exact RA3.out)))
                  go_roundw
                  case rel => exact ⟨i + 1, v3, by omega, rfl, by go_num, HE.out⟩
                  case measure => simp [intOf]; omega
                · have hck' : ¬ (vc : Int) = (k : Int) := by omega
                  obtain ⟨v3, w3, s1, s2, s3⟩ := r4 (.slice (some ⟨b2, o2 + k, none⟩) 0 (vc - k)) (by have := HX.out.1.tail k hkk; rw [Nat.mul_one, HOL.out, Nat.sub_self] at this; exact this)
                  have y5 := (r2.cell (p := ⟨b, o + i * 4 + 3, none⟩) HX.out.2.2.2.2).trans HX.out.2.2.2.1
                  have RA1 : Hid ((Builtin.append_ #[36, 36] 36 #[.slice none 0 0, .slice (some ⟨b2, o2, none⟩) k vc]).run Try.prog wx = .ok v1 w1) := r1
                  have RA2 : Hid ((Builtin.append_ #[36, 36] 36 #[v1, .slice (some ⟨w1.heap.size, 0, none⟩) 1 1]).run Try.prog (w1.alloc (.cells #[.int .i64 q.n] 3)) = .ok v2 w2) := r3
                  have RA3 : Hid ((Builtin.append_ #[36, 36] 36 #[v2, (.slice (some ⟨b2, o2 + k, none⟩) 0 (vc - k))]).run Try.prog w2 = .ok v3 w3) := s1
                  have HE : Hid (Sl iv 1 w3 v3 (fnd (l.take (i + 1)) x) ∧ Below w.heap.size w w3 ∧ At w3 w.heap.size 0 x.k x.n x.s ∧ (fnd (l.take (i + 1)) x = [] → v3 = .slice none 0 0)) := ⟨by rw [HFT2.out]; exact s2, Below.next HX.out.2.1 s3, HX.out.2.2.1.next s3, fun e => by rw [HFT2.out] at e; have := ins_len q.n out; rw [e] at this; simp at this⟩
                  clear r1 r2 r3 r4 s1 s2 s3 HX HFT2 HNI HK
                  go_wp2_with (first | ((with_reducible apply st_append (x := .tmp 40)); (case ho => rfl); (case hgd => rfl); (case hr => exact RA1.out)) | ((with_reducible apply st_append (x := .tmp 45)); (case ho => rfl); (case hgd => rfl); (case hr => exact RA2.out)) | ((with_reducible apply st_append (x := .tmp 53)); (case ho => rfl); (case hgd => rfl); (case hr => exact RA3.out)))
                  go_roundw
                  case rel => exact ⟨i + 1, v3, by omega, rfl, by go_num, HE.out⟩
                  case measure => simp [intOf]; omega
            · have hkL : (k : Int) < (L : Int) := by omega
              have hz' : ¬ z < q.n := hz
              go_wp2_with fail
              go_quiet (fail)
              have HX : Hid (Sl iv 1 (wr.drewN nq) (.slice (some ⟨b2, o2, none⟩) L vc) out ∧ Below w.heap.size w (wr.drewN nq) ∧ At (wr.drewN nq) w.heap.size 0 x.k x.n x.s ∧ (wr.drewN nq).cell? ⟨b, o + i * 4 + 3, none⟩ = some (.int .i64 q.n) ∧ b < (wr.drewN nq).heap.size) := HEX.out nq
              obtain ⟨wx, hwx⟩ : ∃ wx, wr.drewN nq = wx := ⟨_, rfl⟩
              rw [hwx] at HX ⊢
              obtain ⟨v1, w1, v2, w2, r1, r2, r3, r4⟩ := ins_run HX.out.1 q.n (by rw [HOL.out]; exact HLL)
              rw [HK.out] at r1 r4
              clear hwx HEX
              have hkk : k ≤ out.length := by rw [HOL.out]; omega
              have hLv : L ≤ vc := by
                obtain ⟨_, _, e, _, e3, _⟩ := HX.out.1
                cases e
                rw [HOL.out] at e3
                exact e3
              have hkc : (k : Int) ≤ (vc : Int) := by omega
              have hck' : ¬ (vc : Int) = (k : Int) := by omega
              obtain ⟨v3, w3, s1, s2, s3⟩ := r4 (.slice (some ⟨b2, o2 + k, none⟩) (L - k) (vc - k)) (by have := HX.out.1.tail k hkk; rw [Nat.mul_one, HOL.out] at this; exact this)
              have y5 := (r2.cell (p := ⟨b, o + i * 4 + 3, none⟩) HX.out.2.2.2.2).trans HX.out.2.2.2.1
              have RA1 : Hid ((Builtin.append_ #[36, 36] 36 #[.slice none 0 0, .slice (some ⟨b2, o2, none⟩) k vc]).run Try.prog wx = .ok v1 w1) := r1
              have RA2 : Hid ((Builtin.append_ #[36, 36] 36 #[v1, .slice (some ⟨w1.heap.size, 0, none⟩) 1 1]).run Try.prog (w1.alloc (.cells #[.int .i64 q.n] 3)) = .ok v2 w2) := r3
              have RA3 : Hid ((Builtin.append_ #[36, 36] 36 #[v2, (.slice (some ⟨b2, o2 + k, none⟩) (L - k) (vc - k))]).run Try.prog w2 = .ok v3 w3) := s1
              have HE : Hid (Sl iv 1 w3 v3 (fnd (l.take (i + 1)) x) ∧ Below w.heap.size w w3 ∧ At w3 w.heap.size 0 x.k x.n x.s ∧ (fnd (l.take (i + 1)) x = [] → v3 = .slice none 0 0)) := ⟨by rw [HFT2.out]; exact s2, Below.next HX.out.2.1 s3, HX.out.2.2.1.next s3, fun e => by rw [HFT2.out] at e; have := ins_len q.n out; rw [e] at this; simp at this⟩
              clear r1 r2 r3 r4 s1 s2 s3 HX HFT2 HNI HK
              go_wp2_with (first | ((with_reducible apply st_append (x := .tmp 40)); (case ho => rfl); (case hgd => rfl); (case hr => exact RA1.out)) | ((with_reducible apply st_append (x := .tmp 45)); (case ho => rfl); (case hgd => rfl); (case hr => exact RA2.out)) | ((with_reducible apply st_append (x := .tmp 53)); (case ho => rfl); (case hgd => rfl); (case hr => exact RA3.out)))
              go_roundw
              case rel => exact ⟨i + 1, v3, by omega, rfl, by go_num, HE.out⟩
              case measure => simp [intOf]; omega
    · have hlti : ¬ (i : Int) < (N : Int) := by omega
      have htk : l.take i = l := List.take_of_length_le (by have := HN.out; omega)
      have HX : Hid (Sl iv 1 wr vv (fnd l x) ∧ Below w.heap.size w wr) := by
        have := HI.out
        rw [htk] at this
        exact ⟨this.1, this.2.1⟩
      obtain ⟨va, vc, hvv⟩ := slices_shape HX.out.1
      obtain ⟨L, hL⟩ : ∃ L, (fnd l x).length = L := ⟨_, rfl⟩
      rw [hL] at hvv
      subst hvv
      clear HI htk hlt hL
      go_wp2_with fail
      go_ret
      exact ⟨_, rfl, HX.out⟩
end Go.Proofs.Ytgjeobmbfeinnaa
