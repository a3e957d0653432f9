/- Flush. -/
import Derived.Test.YtbjijacpgklegaaSettle
namespace Go.Proofs.Ytbjijacpgklegaa
open Go.ChangeShapes Go.WideShapes Go.ChangeAt Go.RowKit
set_option linter.unusedVariables false
set_option maxRecDepth 100000

/-- Sectors behind writes. -/
def flushed (S : Nat → List UInt8) (Q : List (Nat × List UInt8)) : Nat → List UInt8 := Q.foldl (fun S q => put S q.1 q.2) S

theorem flushed_at (S : Nat → List UInt8) (Q : List (Nat × List UInt8)) (i : Nat) : flushed S Q i = behind (S i) i Q := by
  unfold flushed behind
  induction Q generalizing S with
  | nil => rfl
  | cons q r ih =>
    rw [List.foldl_cons, List.foldl_cons, ih]
    congr 1
    unfold put
    by_cases h : i = q.1
    · rw [if_pos h, if_pos h.symm]
    · rw [if_neg h, if_neg (fun e => h e.symm)]

theorem settled_at (S : Nat → List UInt8) (Q : List (Nat × List UInt8)) (i : Nat) : ∀ L : Nat → List UInt8, settled S L Q i = S i ∨ (settled S L Q i = L i ∧ ∀ q, q ∈ Q → q.1 ≠ i) := by
  unfold settled
  induction Q with
  | nil => intro L; exact .inr ⟨rfl, fun q hq => by cases hq⟩
  | cons q r ih =>
    intro L
    rw [List.foldl_cons]
    rcases ih (put L q.1 (S q.1)) with h | ⟨h, hr⟩
    · exact .inl h
    · rw [h]
      unfold put
      by_cases e : i = q.1
      · rw [if_pos e, e]; exact .inl rfl
      · rw [if_neg e]
        refine .inr ⟨rfl, fun x hx => ?_⟩
        rcases List.mem_cons.1 hx with rfl | hx
        · exact fun e1 => e e1.symm
        · exact hr x hx

theorem behind_out (s : List UInt8) (i : Nat) (Q : List (Nat × List UInt8)) (h : ∀ q, q ∈ Q → q.1 ≠ i) : behind s i Q = s := by
  unfold behind
  induction Q generalizing s with
  | nil => rfl
  | cons q r ih =>
    rw [List.foldl_cons, if_neg (h q (by simp))]
    exact ih s (fun x hx => h x (by simp [hx]))

theorem settle_flushed (S : Nat → List UInt8) (Q : List (Nat × List UInt8)) : settled (flushed S Q) (fun i => behind (S i) i Q) Q = flushed S Q := by
  funext i
  rcases settled_at (flushed S Q) Q i (fun i => behind (S i) i Q) with h | ⟨h, _⟩
  · exact h
  · rw [h, flushed_at]

theorem flush_round {w : World} {F : Nat → Prop} {p bs bl g m cap : Nat} {d : Dk} {L : Nat → List UInt8} (h : Lies w F p bs bl (.slice (some ⟨g, 0, none⟩) m cap) d L) (k : Nat) (hk : k < d.Q.length) :
    ∃ (W1 V W2 : World) (C T : Array Value) (a : Nat), a < d.n ∧ V = { W1 with drawn := W1.drawn + 1 } ∧
      (Instr.loadAt 103 (.pointer (some ⟨g, k * 33, none⟩))).run Try.prog w = .ok (.agg C) w ∧
      (Instr.storeAt 103 (.pointer (some ⟨w.heap.size, 0, none⟩)) (.agg C)).run Try.prog (w.alloc (.cells (#[.int .i64 0] ++ Array.replicate 32 (.int .u8 0)) 103)) = .ok () W1 ∧
      V.cell? ⟨p, 0, none⟩ = some (.slice (some ⟨bs, 0, none⟩) d.n d.n) ∧ V.cell? ⟨w.heap.size, 0, none⟩ = some (.int .i64 (a : Int)) ∧
      (Instr.loadAt 101 (.pointer (some ⟨w.heap.size, 1, none⟩))).run Try.prog V = .ok (.agg T) V ∧
      (Instr.storeAt 101 (.pointer (some ⟨bs, a * 32, none⟩)) (.agg T)).run Try.prog V = .ok () W2 ∧
      Lies W2 F p bs bl (.slice (some ⟨g, 0, none⟩) m cap) { d with S := put d.S d.Q[k].1 d.Q[k].2 } L ∧ Kept F w W2 := by
  have hq := h.qs d.Q[k] (List.getElem_mem hk)
  have hl := h.waits k hk
  generalize d.Q[k] = q at *
  have k1 : Kept (fun _ => False) w (w.alloc (.cells (qv q).toArray 103)) := (Kept.refl _ w).alloc _
  have h1 := (h.kept k1 (fun _ _ x => x)).drew
  obtain ⟨V, hV⟩ : ∃ V, V = (w.alloc (.cells (qv q).toArray 103)).drew := ⟨_, rfl⟩
  rw [← hV] at h1
  have hS := h1.sure.len q.1 hq.1
  have hset := h1.setSure hq.1 q.2 (by omega)
  rw [put_whole d.S q.1 q.2 (by omega)] at hset
  refine ⟨_, V, _, _, _, q.1, hq.1, hV, hl, copied w q hq.2, h1.c0, by rw [hV]; exact copied_cell w q, load62 (bv q.2) (by rw [bv_len, hq.2]) (copied_text w q hq.2 V (by rw [hV]; rfl)),
    store62 (bv q.2) (by rw [bv_len, hq.2]) (fun j hj => h1.sure.some_at hq.1 hj) (fun j _ => h1.sure.free _) (bv_one _), hset, ?_⟩
  refine Kept.setCells (.inl h.fs) _ _ _ ?_
  rw [hV]
  exact (k1.mono (fun _ x => x.elim)).drew

theorem flush_no (v : Value) (w : World) (h : Szd w v 0) : Calls Try.prog 52 #[v] w fun e w' => e = .returned (.int .i64 1) ∧ w' = w := by
  have H := (show Hid _ from size_is v 0 w h)
  clear h
  go_enter Try.func52, Try.ntmps52
  go_wp2_with fail
  refine Calls.mono H.out ?_; rintro e w1 ⟨rfl, rfl⟩
  go_wp2_with fail
  go_ret
  exact ⟨rfl, rfl⟩

theorem flush_off {w : World} {F : Nat → Prop} {p bs bl : Nat} {v : Value} {d : Dk} {L : Nat → List UInt8} (h : Lies w F p bs bl v d L) (hb : (burn d.fuse d.off).2.2 = false) :
    Calls Try.prog 52 #[.pointer (some ⟨p, 0, none⟩)] w fun e w' => e = .returned (.int .i64 30) ∧ Lies w' F p bs bl v d.burnt L ∧ Kept F w w' ∧ w'.heap.size = w.heap.size := by
  have H := (show Hid _ from size_is _ d.n w (.inr ⟨p, _, _, rfl, h.c1⟩))
  have HS := (show Hid _ from spend_lies h)
  rw [hb] at HS
  have hn : ((d.n : Int) == 0) = false := by have := h.n1; simp; omega
  have HF := (show Hid _ from h.fp)
  clear h hb
  go_enter Try.func52, Try.ntmps52
  go_wp2_with fail
  refine Calls.mono H.out ?_; rintro e w1 ⟨rfl, rfl⟩
  go_wp2_with fail
  refine Calls.mono HS.out ?_; rintro e w1 ⟨rfl, h1, k1, z1⟩
  have HL := (show Hid _ from And.intro h1 (And.intro k1 z1))
  clear h1 k1 z1
  go_wp2_with fail
  go_ret
  exact ⟨rfl, HL.out.1, HL.out.2.1.mono (fun i hi => by rw [hi]; exact HF.out), HL.out.2.2⟩

theorem flush_on {w : World} {F : Nat → Prop} {p bs bl : Nat} {v : Value} {d : Dk} {L : Nat → List UInt8} (h : Lies w F p bs bl v d L) (hb : (burn d.fuse d.off).2.2 = true) (hQ : d.Q.length ≤ 1048576) :
    Calls Try.prog 52 #[.pointer (some ⟨p, 0, none⟩)] w fun e w' => e = .returned (.int .i64 0) ∧
      ∃ v', Lies w' F p bs bl v' { d.burnt with S := flushed d.S d.Q, Q := [] } (settled (flushed d.S d.Q) L d.Q) ∧ Kept F w w' := by
  have H := (show Hid _ from size_is _ d.n w (.inr ⟨p, _, _, rfl, h.c1⟩))
  have HS := (show Hid _ from spend_lies h)
  rw [hb] at HS
  have hn : ((d.n : Int) == 0) = false := by have := h.n1; simp; omega
  have HF := (show Hid _ from h.fp)
  obtain ⟨ov, cv, ev⟩ := h.form
  subst ev
  have HQ := (show Hid _ from hQ)
  have hm1 : d.Q.length ≤ 1048576 := hQ
  clear h hb hQ
  obtain ⟨m, em⟩ : ∃ m, d.Q.length = m := ⟨_, rfl⟩
  have HM := (show Hid _ from em)
  rw [em] at HS hm1
  clear em
  go_enter Try.func52, Try.ntmps52
  go_wp2_with fail
  refine Calls.mono H.out ?_; rintro e w1 ⟨rfl, rfl⟩
  go_wp2_with fail
  refine Calls.mono HS.out ?_; rintro e w2 ⟨rfl, h1, k1, z1⟩
  have HL := (show Hid _ from h1)
  have HK := (show Hid _ from (k1.mono (F' := F) (fun i hi => by rw [hi]; exact HF.out)))
  have hc2 := h1.c2
  clear h1 k1 z1 HS H
  go_wp2_with fail
  go_loopw [16] (fun i wr => ∃ k : Nat, k ≤ m ∧ i = .int .i64 k ∧ Hid (Lies wr F p bs bl (.slice ov m cv) { d.burnt with S := flushed d.S (d.Q.take k) } L) ∧ Kept F w2 wr)
    (fun i _ => m - (intOf i).toNat)
  case atStart => exact ⟨0, Nat.zero_le _, rfl, HL, Kept.refl _ _⟩
  case round =>
    obtain ⟨k, hk, rfl, HW, KB⟩ := hrel
    have HKB := (show Hid _ from KB)
    clear KB
    by_cases hlt : k < m
    · obtain ⟨g, rfl⟩ : ∃ g, ov = some ⟨g, 0, none⟩ := by
        rcases HW.out.own.2 with ⟨_, e⟩ | ⟨g, cap, cur, e, _⟩
        · have : d.Q.length = 0 := e
          have := HM.out; omega
        · cases e; exact ⟨g, rfl⟩
      obtain ⟨W1, V, W2, C, T, a, ha, eV, hl, hs, c0, ca, hl2, hs2, hL2, hK2⟩ := flush_round HW.out k (by show k < d.Q.length; have := HM.out; omega)
      have HA := (show Hid _ from alloc64 wr)
      have H1 := (show Hid _ from hl)
      have H2 := (show Hid _ from hs)
      have H3 := (show Hid _ from hl2)
      have H4 := (show Hid _ from hs2)
      have H5 := (show Hid _ from And.intro hL2 hK2)
      have HV := (show Hid _ from eV)
      have hai : (a : Int) < (d.n : Int) := by have : a < d.n := ha; omega
      have hki : (k : Int) < (m : Int) := by omega
      replace c0 : V.cell? ⟨p, 0, none⟩ = some (.slice (some ⟨bs, 0, none⟩) d.n d.n) := c0
      clear hl hs hl2 hs2 hL2 hK2 eV ha
      go_wp2_with (first | ((with_reducible apply st_load); (case ho => rfl); (case hgd => rfl); (case hr => exact H1.out)) | ((with_reducible apply st_alloc); (case ho => rfl); (case hgd => rfl); (case hr => exact HA.out)) | ((with_reducible apply st_store); (case ho => rfl); (case hgd => rfl); (case hr => exact H2.out)))
      refine wp_region_still_tail 9 (by kernel_rfl) (by kernel_rfl) ?_
      rw [← HV.out]
      simp only [List.take_succ_cons, List.take_zero, List.drop_succ_cons, List.drop_zero]
      iterate 7 still_step
      refine sl_load rfl rfl H3.out ?_
      still_step
      refine wpStill_nil ?_
      refine st_store rfl rfl H4.out ?_
      go_wp2_with fail
      go_roundw
      case rel =>
        refine ⟨k + 1, by omega, by go_num, ?_, HKB.out.trans H5.out.2 (fun _ x => .inl x)⟩
        have e : d.Q.take (k + 1) = d.Q.take k ++ [d.Q[k]'(by have := HM.out; omega)] := List.take_succ_eq_append_getElem _
        show Lies _ _ _ _ _ _ _ _
        have e2 : flushed d.S (d.Q.take (k + 1)) = put (flushed d.S (d.Q.take k)) (d.Q[k]'(by have := HM.out; omega)).1 (d.Q[k]'(by have := HM.out; omega)).2 := by
          rw [e]; unfold flushed; rw [List.foldl_append]; rfl
        rw [e2]
        exact H5.out.1
      case measure => simp [intOf]; omega
    · have ek : k = m := by omega
      subst ek
      have hwl : Lies wr F p bs bl (.slice ov k cv) { d.burnt with S := flushed d.S d.Q } L := by
        have := HW.out
        rw [show d.Q.take k = d.Q by rw [← HM.out, List.take_length]] at this
        exact this
      have HT := (show Hid _ from settle_is hwl HQ.out)
      clear hwl HW
      go_wp2_with fail
      refine Calls.mono HT.out ?_; rintro e w3 ⟨rfl, v', h3, k3⟩
      have HE := (show Hid (∃ v', Lies w3 F p bs bl v' { d.burnt with S := flushed d.S d.Q, Q := [] } (settled (flushed d.S d.Q) L d.Q) ∧ Kept F w1 w3) from
        ⟨v', h3, (HK.out.trans HKB.out (fun _ x => .inl x)).trans k3 (fun _ x => .inl x)⟩)
      clear h3 k3 HT
      go_wp2_with fail
      go_ret
      exact ⟨rfl, HE.out⟩
end Go.Proofs.Ytbjijacpgklegaa
