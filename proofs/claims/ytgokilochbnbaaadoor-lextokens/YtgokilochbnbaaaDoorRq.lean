/- How far a quoted text goes. -/
import Derived.Test.YtgokilochbnbaaaDoorQu
import Derived.LoopTactic
namespace Go.Proofs.YtgokilochbnbaaaDoor
open Go.ChangeShapes Go.WideShapes Go.ChangeAt Go.RowKit
set_option linter.unusedVariables false
set_option maxRecDepth 100000

theorem below_set {B : Nat} {w : World} (a : Addr) (v : Value) (h : B ≤ a.block) : Below B w (w.setCell a v) :=
  ⟨rfl, rfl, rfl, by simp, fun i hi => heap_setCell_other w a i v (by omega)⟩
set_option maxHeartbeats 400000 in
theorem run_q (s : ByteArray) (hs : s.size ≤ 140737488351232) (q : UInt8) (hq : q.toNat < 128) (W : World) (B B1 B2 : Nat) (C1 : W.cell? ⟨B1, 0, none⟩ = some (.string ⟨#[q]⟩)) (C2 : W.cell? ⟨B2, 0, none⟩ = some (.bool false)) (FZ : W.frozen? ⟨B2, 0, none⟩ = false)
    (hB : B ≤ B1 ∧ B ≤ B2 ∧ B1 < W.heap.size ∧ B2 < W.heap.size ∧ B1 ≠ B2) :
    Calls Tryd.prog 35 #[.string s, .func (.func 78) #[] #[.pointer (some ⟨B1, 0, none⟩), .pointer (some ⟨B2, 0, none⟩)]] W fun e w' => e = .returned (.int .i64 ((scan (fq q) false s.data.toList).1 : Int)) ∧ Below B W w' ∧ w'.cell? ⟨B1, 0, none⟩ = some (.string ⟨#[q]⟩) ∧ w'.cell? ⟨B2, 0, none⟩ = some (.bool (scan (fq q) false s.data.toList).2) := by
  obtain ⟨T, hT⟩ : ∃ T, T = scan (fq q) false s.data.toList := ⟨_, rfl⟩
  rw [← hT]
  have HT : Hid (T = (0 + (scan (fq q) false (s.data.toList.drop 0)).1, (scan (fq q) false (s.data.toList.drop 0)).2)) := by
    show _ = _
    rw [hT]; simp
  clear hT
  have HQ : Hid (QS (W.iter s 0) B B1 B2 W.heap.size s q false 0) := by
    refine ⟨?_, ?_, ?_, World.iter_heap W s 0, ⟨by omega, by omega, by omega⟩, by omega⟩
    · rw [← C1]; exact World.cell?_of_block (a := ⟨B1, 0, none⟩) ((below1 W (.stringIter s 0)).block B1 (by omega))
    · rw [← C2]; exact World.cell?_of_block (a := ⟨B2, 0, none⟩) ((below1 W (.stringIter s 0)).block B2 (by omega))
    · rw [← FZ]; exact World.frozen?_of_block (a := ⟨B2, 0, none⟩) ((below1 W (.stringIter s 0)).block B2 (by omega))
  have HK : Hid (Below B W (W.iter s 0)) := (below1 W (.stringIter s 0)).mono (by omega)
  clear C1 C2 FZ hB
  go_enter Tryd.func35, Tryd.ntmps35
  go_wp2_with fail
  go_loopw [] (fun w' => ∃ pos o, Hid (QS w' B B1 B2 W.heap.size s q o pos) ∧ Hid (Below B W w') ∧ pos ≤ s.size ∧ Hid (T = (pos + (scan (fq q) o (s.data.toList.drop pos)).1, (scan (fq q) o (s.data.toList.drop pos)).2))) (fun w' => s.size - w'.iterPos W.heap.size)
  case atStart => exact ⟨0, false, HQ, HK, by omega, HT⟩
  case round =>
    obtain ⟨pos, o, HS, HL, hle, HP⟩ := hrel
    have hip : wr.iterPos W.heap.size = pos := by unfold World.iterPos; rw [HS.out.it]
    by_cases hp : pos < s.size
    · have hnx : ∀ ty, (Instr.next (.pointer (some ⟨W.heap.size, 0, none⟩)) true ty).run Tryd.prog wr = _ := fun ty => Lib.run_next_any_at wr W.heap.size s pos ty HS.out.it hp
      have hwd := run_pos s pos hp
      by_cases hc : s[pos] = q
      · have hd := decode_ascii s pos hp (by rw [hc]; exact hq)
        rw [hc] at hd
        simp only [hd] at hnx
        have HS2 : Hid (QS (wr.iterAt W.heap.size s (pos + 1)) B B1 B2 W.heap.size s q o (pos + 1)) := HS.out.on _
        have HL2 : Hid (Below B W ((wr.iterAt W.heap.size s (pos + 1)).setCell ⟨B2, 0, none⟩ (.bool (!o)))) := (Lib.below_iterAt HL.out HS.out.lo.2.2 s (pos + 1)).trans (below_set _ _ HS.out.lo.2.1)
        have HC : Hid (Calls Tryd.prog 78 #[.int .i32 (q.toNat : Int), .pointer (some ⟨B1, 0, none⟩), .pointer (some ⟨B2, 0, none⟩)] (wr.iterAt W.heap.size s (pos + 1)) fun e w' => e = .returned (.bool true) ∧ w' = (wr.iterAt W.heap.size s (pos + 1)).setCell ⟨B2, 0, none⟩ (.bool (!o))) := clo_mark (wr.iterAt W.heap.size s (pos + 1)) B1 B2 q hq o HS2.out.c1 HS2.out.c2 HS2.out.fz
        have HG : Hid (T = (pos + 1 + (scan (fq q) (!o) (s.data.toList.drop (pos + 1))).1, (scan (fq q) (!o) (s.data.toList.drop (pos + 1))).2)) := by
          show _ = _
          rw [HP.out, drop_at s pos hp, scan_go (st' := !o) (by unfold fq; rw [if_pos hc])]
          rw [Prod.mk.injEq]; exact ⟨by simp; omega, rfl⟩
        obtain ⟨V, hV⟩ : ∃ V, V = wr.iterAt W.heap.size s (pos + 1) := ⟨_, rfl⟩
        rw [← hV] at hnx HS2 HL2 HC
        clear hV HP hd
        go_wp2_with fail
        refine Calls.mono HC.out ?_; rintro e w1 ⟨rfl, rfl⟩
        go_wp2_with fail
        go_roundw
        case rel => exact ⟨pos + 1, !o, HS2.out.turn, HL2, by omega, HG⟩
        case measure =>
          have e2 : (V.setCell ⟨B2, 0, none⟩ (.bool (!o))).iterPos W.heap.size = pos + 1 := by unfold World.iterPos; rw [HS2.out.turn.it]
          rw [e2, hip]; omega
      · obtain ⟨r, hr⟩ : ∃ r : Nat, r = (Utf8.decode s pos).1 := ⟨_, rfl⟩
        obtain ⟨d, hd⟩ : ∃ d : Nat, d = (Utf8.decode s pos).2 := ⟨_, rfl⟩
        have hrq : ((r : Int) == (q.toNat : Int)) = false := by
          rw [beq_eq, decide_eq_false_iff_not]
          by_cases ha : (s[pos]'hp).toNat < 128
          · rw [hr, decode_ascii s pos hp ha]
            intro e
            exact hc (UInt8.toNat_inj.1 (Int.ofNat_inj.1 e))
          · have := decode_high s pos hp (by omega)
            omega
        have HG : Hid (o = true → pos + d ≤ s.size ∧ T = (pos + d + (scan (fq q) o (s.data.toList.drop (pos + d))).1, (scan (fq q) o (s.data.toList.drop (pos + d))).2)) := fun ho => by
          by_cases ha : (s[pos]'hp).toNat < 128
          · have e1 : d = 1 := by rw [hd, decode_ascii s pos hp ha]
            rw [e1]
            refine ⟨by omega, ?_⟩
            rw [HP.out, drop_at s pos hp, scan_go (st' := o) (by unfold fq; rw [if_neg hc, if_pos ho])]
            rw [Prod.mk.injEq]; exact ⟨by simp; omega, rfl⟩
          · obtain ⟨h1, h2⟩ := step_high (fq_steps q hq) s pos o hp (by omega) ho
            rw [← hd] at h1 h2
            refine ⟨h1, ?_⟩
            rw [HP.out, h2]
            rw [Prod.mk.injEq]; exact ⟨by simp; omega, rfl⟩
        have HE : Hid (o = false → T = (pos, false)) := fun ho => by
          rw [HP.out, drop_at s pos hp, scan_stop (by unfold fq; rw [if_neg hc, ho]; rfl), ho]; rfl
        simp only [← hr, ← hd] at hnx
        rw [← hd] at hwd
        clear hr hd HP
        have HS2 : Hid (QS (wr.iterAt W.heap.size s (pos + d)) B B1 B2 W.heap.size s q o (pos + d)) := HS.out.on _
        have HL2 : Hid (Below B W (wr.iterAt W.heap.size s (pos + d))) := Lib.below_iterAt HL.out HS.out.lo.2.2 s (pos + d)
        have HC : Hid (Calls Tryd.prog 78 #[.int .i32 (r : Int), .pointer (some ⟨B1, 0, none⟩), .pointer (some ⟨B2, 0, none⟩)] (wr.iterAt W.heap.size s (pos + d)) fun e w' => e = .returned (.bool o) ∧ w' = wr.iterAt W.heap.size s (pos + d)) := clo_other (wr.iterAt W.heap.size s (pos + d)) B1 B2 q hq r hrq o HS2.out.c1 HS2.out.c2
        obtain ⟨V, hV⟩ : ∃ V, V = wr.iterAt W.heap.size s (pos + d) := ⟨_, rfl⟩
        rw [← hV] at hnx HS2 HL2 HC
        clear hV
        cases o
        · have HE2 : Hid (T = (pos, false)) := HE.out rfl
          clear HE HG
          go_wp2_with fail
          refine Calls.mono HC.out ?_; rintro e w1 ⟨rfl, rfl⟩
          go_wp2_with fail
          go_ret
          exact ⟨ret_int (by rw [HE2.out]), HL2.out, HS2.out.c1, by rw [HE2.out]; exact HS2.out.c2⟩
        · have HG2 := (HG.out rfl).1
          have HG3 : Hid (T = (pos + d + (scan (fq q) true (s.data.toList.drop (pos + d))).1, (scan (fq q) true (s.data.toList.drop (pos + d))).2)) := (HG.out rfl).2
          clear HE HG
          go_wp2_with fail
          refine Calls.mono HC.out ?_; rintro e w1 ⟨rfl, rfl⟩
          go_wp2_with fail
          go_roundw
          case rel => exact ⟨pos + d, true, HS2, HL2, HG2, HG3⟩
          case measure =>
            have e2 : w1.iterPos W.heap.size = pos + d := by unfold World.iterPos; rw [HS2.out.it]
            rw [e2, hip]; omega
    · have hnx : ∀ ty, (Instr.next (.pointer (some ⟨W.heap.size, 0, none⟩)) true ty).run Tryd.prog wr = _ := fun ty => Lib.run_next_end_at wr W.heap.size s pos ty HS.out.it hp
      have HE : Hid (T = (s.size, o)) := by
        show _ = _
        rw [HP.out, List.drop_of_length_le (by simp; omega)]
        simp [scan]; omega
      go_wp2_with fail
      go_ret
      exact ⟨ret_int (by rw [HE.out]), HL.out, HS.out.c1, by rw [HE.out]; exact HS.out.c2⟩
end Go.Proofs.YtgokilochbnbaaaDoor
