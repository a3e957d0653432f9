/- Names of one. -/
import Derived.Test.YtkhpmmmildcceaaGreatQSrt
namespace Go.Proofs.YtkhpmmmildcceaaGreat
open Go.ChangeShapes Go.WideShapes Go.ChangeAt Go.RowKit
set_option linter.unusedVariables false
set_option maxRecDepth 100000

theorem Tryz.under34 : Tryz.prog.underlying 34 = some (.slice 9) := by kernel_rfl
theorem Tryz.info9n : (Tryz.prog.info? 9).map (fun i => (i.zero, i.size, i.bytes)) = some (some (.string ⟨#[]⟩), 1, 16) := by kernel_rfl
theorem append_first (w : World) (s : ByteArray) : ∃ g c w', (Builtin.append_ #[34, 34] 34 #[.slice none 0 0, .slice (some ⟨w.heap.size, 0, none⟩) 1 1]).run Tryz.prog (w.alloc (.cells #[.string s] 9)) = .ok (.slice (some ⟨g, 0, none⟩) 1 c) w' ∧ Kept (fun _ => False) w w' := by
  obtain ⟨i, hi, hz, h1, h2⟩ := info_of Tryz.info9n
  obtain ⟨v', w', a1, a2, a3, a4, a5⟩ := run_append_own_at (P := Tryz.prog) (w := w.alloc (.cells #[.string s] 9)) 0 34 34 9 i _ 1 16 Tryz.under34 hi hz h1 h2 (by simp [Value.cells]) (by omega) (.slice none 0 0) 0 [] ⟨rfl, .inl ⟨rfl, rfl⟩⟩ ⟨w.heap.size, 0, none⟩ 1 1 [.string s] rfl (fun j u hu => by
    rw [Go.WideShapes.add_plain]
    cases j with
    | zero =>
      have : u = .string s := by simpa using hu.symm
      rw [this]
      simp
    | succ j => simp at hu) (fun u hu => by rw [List.mem_singleton.1 hu]; rfl) (by unfold maxLen; omega) (by omega) (Nat.zero_le _)
  rcases a2.2 with ⟨_, z⟩ | ⟨g, cap, cur, z, _⟩
  · omega
  · refine ⟨g, cap, w', by rw [a1, z], ?_⟩
    have k1 : Kept (fun _ => False) w (w.alloc (.cells #[.string s] 9)) := (Kept.refl _ w).alloc _
    have k2 : Kept (fun _ => False) (w.alloc (.cells #[.string s] 9)) w' := (grown_kept a3).mono (fun i e => by cases e)
    exact k1.trans k2 (fun _ z => z.elim)
set_option maxHeartbeats 1000000 in
theorem names_one {B : Nat} {w : World} {p pd : Nat} {v : Sv} (h : SH B w p pd v) {s0 : List UInt8} {k0 : Nat} (hv : v.nn = [(s0, k0)]) : Calls Tryz.prog 17 #[.pointer (some ⟨p, 0, none⟩)] w fun e w' => ∃ a c, e = .returned (.slice a 1 c) ∧ Kept (fun _ => False) w w' := by
  obtain ⟨F, a, b, hx⟩ := h
  have HO : Hid _ := open_yes hx.sp
  have hc131 : w.cell? ⟨p, 131, none⟩ = some (.map (some b)) := hx.sp.cn
  have HN : Hid (NmAt w b [(s0, k0)]) := by have := hx.lb; rw [hv] at this; exact this
  have HR : Hid (risN [(s0, k0)]) := HN.out.ris
  have hbl := hx.lb.lt
  have HS : Hid (∀ V a c, Calls Tryz.prog 47 #[.slice a 1 c] V fun e w' => e = .returned (.tuple #[]) ∧ w' = V) := fun V a c => sort_few a 1 c (by omega) V
  clear hx hv
  go_enter Tryz.func17, Tryz.ntmps17
  go_wp2_with fail
  refine Calls.mono HO.out ?_; rintro e w1 ⟨rfl, rfl⟩
  go_wp2_with (first | (at_range; refine range_si rfl _ rfl b [(s0, k0)] rfl HN.out ?_; intro w0 hrg0 hg0 hs0) | fail)
  go_frame
  refine wp_loop_rounds 2 ?_
  rw [rounds_succ]
  have HG0 : Hid (RgAt w0 b w1.heap.size [(s0, k0)] (Go.Maps.has (dN [(s0, k0)])) 1 ∧ Kept (fun _ => False) w1 w0) := ⟨hrg0, hg0⟩
  clear hrg0 hg0 hs0
  go_wp2_with (first | (at_next; refine next_si rfl _ rfl b w1.heap.size [(s0, k0)] _ _ rfl HG0.out.1 ?_ ?_) | fail)
  · intro hl
    have := hl (.string s0)
    have h2 : Go.Maps.has (dN [(s0, k0)]) (.string s0) = true := has_mem HR.out (x := (s0, k0)) (List.mem_singleton.2 rfl)
    rw [h2] at this
    cases this
  · intro s n w5 cnt5 hse hnk hls hrg5 hlt hg5 hsz hen
    obtain ⟨g, c, w6, RA, k6⟩ := append_first w5 s
    have k5 : Kept (fun _ => False) w1 w5 := HG0.out.2.trans hg5 (fun i e => .inr (by omega))
    have HR6 : Hid _ := RA
    have hr6 := hrg5.kept k6 (fun z => z) (fun z => z)
    have HG6 : Hid (RgAt w6 b w1.heap.size [(s0, k0)] (fun z => Go.Maps.has (dN [(s0, k0)]) z && !z.sameKey (.string s.data.toList)) cnt5 ∧ Kept (fun _ => False) w1 w6 ∧ s.data.toList = s0) := ⟨hr6, k5.trans k6 (fun _ z => z.elim), hse⟩
    clear hls hrg5 hlt hg5 hsz hse RA k6 k5 hr6
    go_wp2_with (first | ((with_reducible apply st_append); (case ho => rfl); (case hgd => rfl); (case hr => exact HR6.out)) | fail)
    rw [rounds_succ]
    go_wp2_with (first | (at_next; refine next_si rfl _ rfl b w1.heap.size [(s0, k0)] _ _ rfl HG6.out.1 ?_ ?_) | fail)
    · intro hl
      clear hl
      go_wp2_with fail
      refine Calls.mono (HS.out _ _ _) ?_; rintro e w2 ⟨rfl, rfl⟩
      go_wp2_with fail
      go_ret
      exact ⟨_, _, rfl, HG6.out.2.1⟩
    · intro s2 n2 w7 cnt7 he hnk2 hls1 hls2 hrg7 hlt7 hg7 hsz7 hen7
      rw [he, HG6.out.2.2, same_str] at hls2
      simp at hls2
end Go.Proofs.YtkhpmmmildcceaaGreat
