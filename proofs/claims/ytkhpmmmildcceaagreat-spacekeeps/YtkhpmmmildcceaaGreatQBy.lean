/- The bytes of a state. -/
import Derived.Test.YtkhpmmmildcceaaGreatQNm
import Derived.Test.YtkhpmmmildcceaaGreatQCp
namespace Go.Proofs.YtkhpmmmildcceaaGreat
open Go.ChangeShapes Go.WideShapes Go.ChangeAt Go.RowKit
set_option linter.unusedVariables false
set_option maxRecDepth 100000

/-- What Bytes of a state are, by its cells. -/
def BytE (u : List UInt8) (ns : List Nam) (cs : List Cel) : Prop := okC cs ∧ pwC cs ∧ (usedK, u) ∈ cs ∧ (∀ c, c ∈ cs → c = (usedK, u) ∨ ∃ x, x ∈ ns ∧ c = nC x) ∧ (okC (cellsN u ns) → cs = cellsN u ns)
def ByI (u : List UInt8) (ns : List Nam) (left : Lit → Bool) (cs : List Cel) : Prop := okC cs ∧ pwC cs ∧ (usedK, u) ∈ cs ∧ (∀ c, c ∈ cs → c = (usedK, u) ∨ ∃ x, x ∈ ns ∧ c = nC x) ∧ (okC (cellsN u ns) → Did ns left (fun x => nC x ∈ cs))
theorem ByI.step {u : List UInt8} {ns : List Nam} {left : Lit → Bool} {cs cs2 : List Cel} {s v : ByteArray} {n g : Nat} (hr : risN ns) (hk : ∀ x, x ∈ ns → okN x) (h : ByI u ns left cs) (hm : (s.data.toList, n) ∈ ns) (hv : v.data.toList = le2 n) (hx : NX cs s v g cs2) : ByI u ns (fun z => left z && !z.sameKey (.string s.data.toList)) cs2 := by
  obtain ⟨h1, h2, h3, h4, h5⟩ := h
  have hok := hx.ok h1 ((ris_pw _).2 h2)
  have hmm := hx.mem h2
  have hne : usedK ≠ s.data.toList := fun e => used_ne (hk _ hm) e.symm
  refine ⟨hok.1, (ris_pw _).1 hok.2, ?_, fun c hc => ?_, fun hall => ?_⟩
  · by_cases hg : g = 0
    · exact (hmm.2 hg _).2 (Or.inr ⟨h3, hne⟩)
    · rw [hx.same hg]; exact h3
  · rcases hmm.1 c hc with rfl | q
    · exact Or.inr ⟨_, hm, by rw [hv]; rfl⟩
    · exact h4 c q
  · have hg := hx.room h2 (pw_cellsN u hr hk) hall (mem_cellsN.2 (Or.inr ⟨_, hm, by rw [hv]; rfl⟩)) (fun c hc => by
      rcases h4 c hc with q | q
      · exact mem_cellsN.2 (Or.inl q)
      · exact mem_cellsN.2 (Or.inr q))
    have key : ∀ x, x ∈ ns → x.1 = s.data.toList ∨ nC x ∈ cs → nC x ∈ cs2 := fun x hxm hor => by
      by_cases e : x.1 = s.data.toList
      · have : x = (s.data.toList, n) := risN_inj hr hxm hm e
        rw [this]
        exact (hmm.2 hg _).2 (Or.inl (by rw [hv]; rfl))
      · rcases hor with q | q
        · exact absurd q e
        · exact (hmm.2 hg _).2 (Or.inr ⟨q, e⟩)
    intro x hxm hl
    have hl2 : (left (.string x.1) && !(Lit.string x.1).sameKey (.string s.data.toList)) = false := hl
    cases q : left (.string x.1) with
    | false => exact key x hxm (Or.inr (h5 hall x hxm q))
    | true =>
      rw [q, same_str] at hl2
      exact key x hxm (Or.inl (by simpa using hl2))
theorem okC_used {u : List UInt8} (hu : u.length = 63) : okC [(usedK, u)] := by
  have := okC_cells (u := u) hu (ns := []) (fun x hx => by cases hx) (Nat.zero_le _)
  exact this
theorem ByI.start {u : List UInt8} {ns : List Nam} {cs2 : List Cel} {s v : ByteArray} {g : Nat} (hu : u.length = 63) (hr : risN ns) (hs : s.data.toList = usedK) (hv : v.data.toList = u) (hx : NX [] s v g cs2) : ByI u ns (Go.Maps.has (dN ns)) cs2 := by
  have h0 : okC [] := ⟨fun c hc => (by cases hc), by show 8 + 2 * 0 + 0 ≤ 256; omega⟩
  have p0 : pwC [] := List.Pairwise.nil
  have hg := hx.room p0 (List.pairwise_singleton _ _) (okC_used hu) (by rw [hs, hv]; exact List.mem_singleton.2 rfl) (fun c hc => by cases hc)
  have hok := hx.ok h0 ((ris_pw _).2 p0)
  have hmm := (hx.mem p0).2 hg
  rw [hs, hv] at hmm
  exact ⟨hok.1, (ris_pw _).1 hok.2, (hmm _).2 (Or.inl rfl), fun c hc => by
    rcases (hmm c).1 hc with q | q
    · exact Or.inl q
    · exact absurd q.1 (by simp), fun _ => Did.start hr _⟩
theorem ByI.end {u : List UInt8} {ns : List Nam} {left : Lit → Bool} {cs : List Cel} (hr : risN ns) (hk : ∀ x, x ∈ ns → okN x) (h : ByI u ns left cs) (hl : ∀ kl, left kl = false) : BytE u ns cs := by
  obtain ⟨h1, h2, h3, h4, h5⟩ := h
  refine ⟨h1, h2, h3, h4, fun hall => pw_ext h2 (pw_cellsN u hr hk) (fun c => ?_)⟩
  rw [mem_cellsN]
  constructor
  · exact h4 c
  · rintro (rfl | ⟨x, hx, rfl⟩)
    · exact h3
    · exact (h5 hall).end hl x hx
theorem slice65 (w : World) (b o : Nat) : (Instr.sliceAt 65 (.pointer (some ⟨b, o, none⟩)) none none none).run Tryz.prog w = .ok (.slice (some ⟨b, o, none⟩) 63 63) w := by
  have e : Tryz.prog.arrayLen 65 = 63 := by kernel_rfl
  have e5 : Tryz.prog.elem 65 = 5 := by kernel_rfl
  rw [run_sliceAt_array_all w 65 ⟨b, o, none⟩ (by kernel_rfl), e, e5, size5]
  simp [slicedAt, Addr.add]
theorem conv65 {w : World} {b o : Nat} {u : List UInt8} (h : Us w b o u) : (convert 98 9 (.slice (some ⟨b, o, none⟩) 63 63)).run Tryz.prog w = .ok (.string ⟨u.toArray⟩) w := by
  have := run_convert_bytes_back (P := Tryz.prog) w 98 9 5 ⟨b, o, none⟩ 63 u Tryz.underlying98 Tryz.underlying5 Tryz.underlying9 (fun j hj => by
    show w.cell? ((⟨b, o, none⟩ : Addr).add j) = _
    rw [Addr.add_mid]
    exact h.2 j _ (List.getElem?_eq_getElem hj))
  rw [h.1] at this
  exact this
theorem two_of (n : Nat) (hn : n < 65536) (W : World) : (Instr.sliceAt 9 (.string ⟨(putL (low (n : Int))).toArray⟩) none (some (.int .i64 2)) none).run Tryz.prog W = .ok (.string ⟨(le2 n).toArray⟩) W := by
  rw [run_sliceAt_string W 9 _ _ _ _ Tryz.underlying9]
  have := run_slice_string_to_if (P := Tryz.prog) (w := W) 9 ⟨(putL (low (n : Int))).toArray⟩ .i64 2 Tryz.underlying9
  rw [this, low_nat (by omega)]
  rfl
theorem kd3 : (UInt8.ofNat 3).toNat ≠ 0 := by decide
set_option maxHeartbeats 2000000 in
theorem sbytes_is {w : World} {b o m : Nat} {u : List UInt8} {ns : List Nam} (h : Us w b o u) (hm : w.cell? ⟨b, o + 63, none⟩ = some (.map (some m))) (hn : NmAt w m ns) (hk : ∀ x, x ∈ ns → okN x ∧ x.2 < 65536) : Calls Tryz.prog 58 #[.pointer (some ⟨b, o, none⟩)] w fun e w' => ∃ cs, BytE u ns cs ∧ e = .returned (.string ⟨(bytesB (lay (UInt8.ofNat 3) cs)).toArray⟩) ∧ Kept (fun _ => False) w w' := by
  have HR : Hid (risN ns) := hn.ris
  have HK1 : Hid (∀ x, x ∈ ns → okN x) := fun x hx => (hk x hx).1
  have hml := hn.lt
  have HPN : Hid (Calls Tryz.prog 79 #[.int .i64 3] w fun e w' => ∃ p, e = .returned (.tuple #[.pointer (some ⟨p, 0, none⟩), .int .i64 0]) ∧ Hid (Pg w' p (lay (UInt8.ofNat 3) []) ∧ Kept (fun _ => False) w w' ∧ w.heap.size ≤ p)) := (pnew_is 3 (by omega) (by omega) w).mono (fun e w' ⟨p, q1, q2⟩ => ⟨p, q1, q2⟩)
  obtain ⟨SU, hSU⟩ : ∃ S : ByteArray, (⟨u.toArray⟩ : ByteArray) = S := ⟨_, rfl⟩
  obtain ⟨SK, hSK⟩ : ∃ S : ByteArray, (⟨#[112, 97, 103, 101, 115, 32, 105, 110, 32, 117, 115, 101]⟩ : ByteArray) = S := ⟨_, rfl⟩
  have hSUl : SU.data.toList = u := by rw [← hSU]
  have hSKl : SK.data.toList = usedK := by rw [← hSK]; rfl
  have hSUs : SU.size = 63 := by rw [← hSU]; show u.toArray.size = 63; rw [List.size_toArray]; exact h.1
  have hSKs : SK.size = 12 := by rw [← hSK]; rfl
  have HCV : Hid (∀ V, Kept (fun _ => False) w V → (convert 98 9 (.slice (some ⟨b, o, none⟩) 63 63)).run Tryz.prog V = .ok (.string SU) V ∧ V.cell? ⟨b, o + 63, none⟩ = some (.map (some m))) := fun V k => ⟨by rw [← hSU]; exact conv65 (h.kept k (fun z => z)), k.cell hm (fun z => z)⟩
  have hsl : ∀ V : World, (Instr.sliceAt 65 (.pointer (some ⟨b, o, none⟩)) none none none).run Tryz.prog V = .ok (.slice (some ⟨b, o, none⟩) 63 63) V := fun V => slice65 V b o
  have HPU : Hid (∀ V p, Pg V p (lay (UInt8.ofNat 3) []) → Kept (fun _ => False) w V → w.heap.size ≤ p → Calls Tryz.prog 80 #[.pointer (some ⟨p, 0, none⟩), .string SK, .string SU] V fun e w' => ∃ (g : Nat) (cs : List Cel), e = .returned (.int .i64 (g : Int)) ∧ Hid (ByI u ns (Go.Maps.has (dN ns)) cs ∧ Pg w' p (lay (UInt8.ofNat 3) cs) ∧ Kept (fun _ => False) w w')) := fun V p q1 q2 q3 => by
    refine (pputN_is q1 ⟨fun c hc => (by cases hc), by show 8 + 2 * 0 + 0 ≤ 256; omega⟩ ((ris_pw _).2 List.Pairwise.nil) kd3 SK SU (by omega) (by omega)).mono ?_
    rintro e w' ⟨g, cs2, rfl, n1, n2, n3⟩
    exact ⟨g, cs2, rfl, ByI.start h.1 HR.out hSKl hSUl n1, n2, q2.trans n3 (fun i e => .inr (by omega))⟩
  have HNM : Hid (NmAt w m ns) := hn
  have HST : Hid (∀ V p cs left s n, Pg V p (lay (UInt8.ofNat 3) cs) → ByI u ns left cs → (s.data.toList, n) ∈ ns → Calls Tryz.prog 80 #[.pointer (some ⟨p, 0, none⟩), .string s, .string ⟨(le2 n).toArray⟩] V fun e w' => ∃ (g : Nat), e = .returned (.int .i64 (g : Int)) ∧ Hid (∃ cs2, ByI u ns (fun z => left z && !z.sameKey (.string s.data.toList)) cs2 ∧ Pg w' p (lay (UInt8.ofNat 3) cs2) ∧ Kept (fun i => i = p) V w')) := fun V p cs left s n q1 q2 q3 => by
    have hsz := (hk _ q3).1.2
    have hs1 : s.data.toList.length = s.size := by simp
    have hv2 : (⟨(le2 n).toArray⟩ : ByteArray).size = 2 := rfl
    simp only [hs1] at hsz
    refine (pputN_is q1 q2.1 ((ris_pw _).2 q2.2.1) kd3 s ⟨(le2 n).toArray⟩ (by omega) (by omega)).mono ?_
    rintro e w' ⟨g, cs2, rfl, n1, n2, n3⟩
    exact ⟨g, rfl, cs2, ByI.step HR.out HK1.out q2 q3 rfl n1, n2, n3⟩
  have HPT : Hid (∀ (n : Nat) (V : World), Calls Tryz.prog 81 #[.int .i64 (n : Int)] V fun e w' => e = .returned (.string ⟨(putL (low (n : Int))).toArray⟩) ∧ Hid (Kept (fun _ => False) V w')) := fun n V => (put_is (n : Int) V).mono (fun e w' ⟨q1, q2⟩ => ⟨q1, below_k0 q2⟩)
  have HN6 : Hid (∀ x, x ∈ ns → x.2 < 65536) := fun x hx => (hk x hx).2
  have HBY : Hid (∀ V p cs, Pg V p (lay (UInt8.ofNat 3) cs) → Calls Tryz.prog 82 #[.pointer (some ⟨p, 0, none⟩)] V fun e w' => e = .returned (.string ⟨(bytesB (lay (UInt8.ofNat 3) cs)).toArray⟩) ∧ Hid (Kept (fun _ => False) V w')) := fun V p cs q => (bytes_is q (by rw [lay_kind]; exact kd3)).mono (fun e w' ⟨q1, q2⟩ => ⟨q1, q2⟩)
  clear h hm hn hk hSU hSUl hSKl hSUs hSKs
  go_enter Tryz.func58, Tryz.ntmps58
  go_wp2_with fail
  refine Calls.mono HPN.out ?_; rintro e w1 ⟨p, rfl, HP1⟩
  obtain ⟨hcv1, hmm1⟩ := HCV.out w1 HP1.out.2.1
  go_wp2_with fail
  refine Calls.mono (HPU.out w1 p HP1.out.1 HP1.out.2.1 HP1.out.2.2) ?_; rintro e w2 ⟨g2, cs2, rfl, HP2⟩
  have hmm2 := (HCV.out w2 HP2.out.2.2).2
  clear hcv1 hmm1
  have HNM2 : Hid (NmAt w2 m ns) := HNM.out.kept HP2.out.2.2 (fun z => z)
  go_wp2_with (first | (at_range; refine range_si rfl _ rfl m ns rfl HNM2.out ?_; intro w3 hrg3 hg3 hs3) | fail)
  go_frame
  obtain ⟨r, hrr⟩ : ∃ r, w2.heap.size = r := ⟨_, rfl⟩
  rw [hrr] at hrg3 ⊢
  have HBL : Hid (p < r ∧ w.heap.size ≤ p ∧ w.heap.size ≤ r ∧ m < w.heap.size) := ⟨by rw [← hrr]; exact HP2.out.2.1.lt, HP1.out.2.2, by rw [← hrr]; exact HP2.out.2.2.size, hml⟩
  have HG3 : Hid (RgAt w3 m r ns (Go.Maps.has (dN ns)) ns.length ∧ Pg w3 p (lay (UInt8.ofNat 3) cs2) ∧ Kept (fun _ => False) w w3 ∧ ByI u ns (Go.Maps.has (dN ns)) cs2) := ⟨hrg3, HP2.out.2.1.kept hg3 (fun z => z), HP2.out.2.2.trans hg3 (fun _ z => z.elim), HP2.out.1⟩
  clear hrg3 hg3 hs3 hrr HP2 HP1 HNM2 HNM hmm2 hml
  go_loopw [5, 6] (fun _ _ wr => ∃ (left : Lit → Bool) (cnt : Nat) (cs : List Cel), Hid (RgAt wr m r ns left cnt ∧ Pg wr p (lay (UInt8.ofNat 3) cs) ∧ Kept (fun _ => False) w wr ∧ ByI u ns left cs)) (fun _ _ wr => wr.rangeLeft m r)
  case atStart => exact ⟨_, _, _, HG3.out⟩
  case round =>
    obtain ⟨left, cnt, cs, HL⟩ := hrel
    go_wp2_with (first | (at_next; refine next_si rfl _ rfl m r ns left cnt rfl HL.out.1 ?_ ?_) | fail)
    · intro hl
      have HE : Hid (BytE u ns cs ∧ Pg wr p (lay (UInt8.ofNat 3) cs) ∧ Kept (fun _ => False) w wr) := ⟨HL.out.2.2.2.end HR.out HK1.out hl, HL.out.2.1, HL.out.2.2.1⟩
      clear hl HL
      go_wp2_with fail
      refine Calls.mono (HBY.out wr p cs HE.out.2.1) ?_; rintro e w8 ⟨rfl, HK8⟩
      go_wp2_with fail
      go_ret
      exact ⟨cs, HE.out.1, rfl, HE.out.2.2.trans HK8.out (fun _ z => z.elim)⟩
    · intro s n w5 cnt5 hsm hls hrg5 hlt hg5 hsz hen
      have HB := HBL.out
      have HQ5 : Hid ((s.data.toList, n) ∈ ns ∧ cnt5 < cnt ∧ RgAt w5 m r ns (fun z => left z && !z.sameKey (.string s.data.toList)) cnt5 ∧ Pg w5 p (lay (UInt8.ofNat 3) cs) ∧ Kept (fun _ => False) w w5 ∧ ByI u ns left cs) := ⟨hsm, hlt, hrg5, HL.out.2.1.kept hg5 (by omega), HL.out.2.2.1.trans hg5 (fun i e => .inr (by omega)), HL.out.2.2.2⟩
      have h2s := two_of n (HN6.out _ hsm)
      clear hsm hls hrg5 hlt hg5 hsz HB
      go_wp2_with fail
      refine Calls.mono (HPT.out n _) ?_; rintro e w6 ⟨rfl, HK6⟩
      go_wp2_with fail
      refine Calls.mono (HST.out w6 p cs left s n (HQ5.out.2.2.2.1.kept HK6.out (fun z => z)) HQ5.out.2.2.2.2.2 HQ5.out.1) ?_; rintro e w7 ⟨g7, rfl, HS7⟩
      have HL7 : Hid (∃ cs2, RgAt w7 m r ns (fun z => left z && !z.sameKey (.string s.data.toList)) cnt5 ∧ Pg w7 p (lay (UInt8.ofNat 3) cs2) ∧ Kept (fun _ => False) w w7 ∧ ByI u ns (fun z => left z && !z.sameKey (.string s.data.toList)) cs2) := by
        obtain ⟨cs2, z1, z2, z3⟩ := HS7.out
        have hb := HBL.out
        exact ⟨cs2, (HQ5.out.2.2.1.kept HK6.out (fun z => z) (fun z => z)).kept z3 (by omega) (by omega), z2, (HQ5.out.2.2.2.2.1.trans HK6.out (fun _ z => z.elim)).trans z3 (fun i e => .inr (by omega)), z1⟩
      have HM7 : Hid (cnt5 < cnt) := HQ5.out.2.1
      clear HQ5 HS7 HK6 h2s
      go_wp2_with fail
      go_roundw
      case rel =>
        obtain ⟨cs2, z⟩ := HL7.out
        exact ⟨_, _, cs2, z⟩
      case measure =>
        obtain ⟨cs2, z⟩ := HL7.out
        rw [z.1.left, HL.out.1.left]
        exact HM7.out
end Go.Proofs.YtkhpmmmildcceaaGreat
