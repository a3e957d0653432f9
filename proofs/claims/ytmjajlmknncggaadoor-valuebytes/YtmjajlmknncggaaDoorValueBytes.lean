/- For every row and every text the law ValueBytes returns true and leaves its arguments as they were, the two listed tables of the library being as the program's text lays them: any row as bytes, the row of any bytes or that there is none, there and back. -/
import Derived.Test.YtmjajlmknncggaaDoorRows
import Derived.Test.YtmjajlmknncggaaDoorAwake
import Derived.Test.YtmjajlmknncggaaDoorOpenN
import Derived.Test.YtmjajlmknncggaaDoorLightB
import Derived.Test.YtmjajlmknncggaaDoorRTake
import Derived.ShutString
import Derived.ChangeOld
import Derived.Below
import Derived.BigRegion
import Derived.BigQuiet
import Derived.ChangeMaps5
namespace Go.Proofs.YtmjajlmknncggaaDoor.valueBytes
open Go.ChangeShapes Go.WideShapes Go.ChangeAt Go.RowKit
open Go.ChangeMaps (open_string shut_string)
set_option linter.unusedVariables false

theorem put_any (a : Option Addr) (c n : Nat) (r : List V) (hn : r.length = n) (w : World) (h : Row w (.slice a r.length c) r) (hs : ∀ x, x ∈ r → x.s.size ≤ 200) :
    Calls Tryd.prog 16 #[.slice a n c] w fun e w' => e = .returned (putR r) ∧ Below w.heap.size w w' := by
  by_cases hl : n ≤ 255
  · exact put_is a c n r hn w h (fun x hx => by have := hs x hx; omega) hl
  · exact put_long a c n r hn w hl
theorem refPut_any (a : Option Addr) (c n : Nat) (r : List V) (hn : r.length = n) (w : World) (h : Row w (.slice a r.length c) r) (hs : ∀ x, x ∈ r → x.s.size ≤ 200) (hnr : ∀ x, x ∈ r → -9223372036854775808 ≤ x.n ∧ x.n ≤ 9223372036854775807) :
    Calls Tryd.prog 17 #[.slice a n c] w fun e w' => e = .returned (putR r) ∧ Below w.heap.size w w' := by
  by_cases hl : n ≤ 255
  · exact refPut_is a c n r hn w h (fun x hx => by have := hs x hx; omega) hnr hl
  · exact refPut_long a c n r hn w hl
theorem bytes_beq (s : ByteArray) : (s.toList == s.toList) = true := by simp
theorem rowB_len (r : List V) (hl : r.length ≤ 255) (hf : fits r) : (⟨(rowB r).toArray⟩ : ByteArray).size ≤ 1000000 := by
  rw [← len_size]
  show (rowB r).toArray.toList.length ≤ _
  rw [List.toList_toArray]
  unfold rowB
  rw [List.length_cons]
  have := vals_len r hf
  omega
set_option maxRecDepth 100000 in
set_option maxHeartbeats 4000000 in
theorem walk (a : Option Addr) (ca na : Nat) (r : List V) (hna : r.length = na) (hla : na ≤ 9223372036854775807) (hnr : ∀ x, x ∈ r → -9223372036854775808 ≤ x.n ∧ x.n ≤ 9223372036854775807) (s : ByteArray) (w : World) (hgl : Glob w) (ha : Row w (.slice a r.length ca) r) :
    Calls Tryd.prog 5 #[.slice a na ca, .string s] w fun e w' => e = .returned (.bool true) ∧ Below w.heap.size w w' := by
  have HL : Hid _ := lightB_is w.heap.size a ca na r hna (w.alloc (.cells #[.slice a na ca] 30)) (by simp) (ha.next (below1 _ _)) hla
  have HR : Hid (Row w (.slice a r.length ca) r) := ha
  have HN : Hid _ := hna
  have HNR : Hid _ := hnr
  have HA : Hid (∀ w', Below w.heap.size w w' → Calls Tryd.prog 12 #[] w' fun e w'' => e = .returned (.bool true) ∧ Below w.heap.size w w'') := fun w' hS => (awake_is w' (hgl.next hS)).mono (by
    rintro e w'' ⟨rfl, q⟩
    exact ⟨rfl, Below.next hS q⟩)
  clear ha hna hnr hgl
  go_enter Tryd.func5, Tryd.ntmps5
  go_wp2_with fail
  refine Calls.mono HL.out ?_; rintro e w1 ⟨⟨q, rfl, hq⟩, k1⟩
  have HB1 : Hid (Below w.heap.size w w1) := Below.next (below1 _ _) k1
  clear k1 HL
  cases q with
  | false =>
    go_wp2_with fail
    refine Calls.mono (HA.out _ (HB1.out)) ?_; rintro e w8 ⟨rfl, k8⟩
    have HB8 : Hid (Below w.heap.size w w8) := k8
    clear k8
    go_wp2_with fail
    go_ret
    exact ⟨rfl, HB8.out⟩
  | true =>
    obtain ⟨hl3, hsx⟩ := hq rfl
    have HSX : Hid (∀ x, x ∈ r → x.s.size ≤ 200) := hsx
    have hn3 : na ≤ 1000000 := by have := HN.out; omega
    clear hq hsx
    by_cases h1k : 1024 < s.size
    · have h1ki : 1024 < (s.size : Int) := by omega
      go_wp2_with fail
      refine Calls.mono (HA.out _ (HB1.out)) ?_; rintro e w8 ⟨rfl, k8⟩
      have HB8 : Hid (Below w.heap.size w w8) := k8
      clear k8
      go_wp2_with fail
      go_ret
      exact ⟨rfl, HB8.out⟩
    · have h1ki : ¬ 1024 < (s.size : Int) := by omega
      have HP1 : Hid _ := put_any a ca na r HN.out w1 (HR.out.next HB1.out) HSX.out
      have HT3 : Hid _ := take_is s (by omega)
      have HT4 : Hid _ := refTake_is s (by omega)
      have HFW : Hid _ := take_fwd s
      have HBK : Hid (r.length ≤ 255 → fits r → takeR ⟨(rowB r).toArray⟩ = some r ∧ (⟨(rowB r).toArray⟩ : ByteArray).size ≤ 1000000) := fun h1 h2 => ⟨take_back r h1 h2 HNR.out, rowB_len r h1 h2⟩
      obtain ⟨p, hp⟩ : ∃ p, putR r = p := ⟨_, rfl⟩
      have HPP : Hid (putR r = p) := hp
      rw [hp] at HP1
      have hp2 : (r.length ≤ 255 ∧ fits r) ∧ p = .tuple #[.string ⟨(rowB r).toArray⟩, .int .i64 0] ∨ p = .tuple #[.string ⟨#[]⟩, .int .i64 1] := by
        rw [← hp]
        unfold putR
        split
        · exact .inl ⟨by assumption, rfl⟩
        · exact .inr rfl
      have HR2 : Hid (∀ w', Below w.heap.size w w' → Calls Tryd.prog 17 #[.slice a na ca] w' fun e w'' => e = .returned p ∧ Below w'.heap.size w' w'') := fun w' hS => by
        have := refPut_any a ca na r HN.out w' (HR.out.next hS) HSX.out HNR.out
        rw [hp] at this
        exact this
      obtain ⟨T, hT⟩ : ∃ T, takeR s = T := ⟨_, rfl⟩
      rw [hT] at HT3 HT4 HFW
      clear hp hT HPP
      rcases hp2 with ⟨⟨hpl, hpf⟩, rfl⟩ | rfl
      · go_wp2_with fail
        refine Calls.mono HP1.out ?_; rintro e w2 ⟨rfl, k2⟩
        have HB2 : Hid (Below w.heap.size w w2) := HB1.out.trans (k2.mono HB1.out.size)
        clear k2 HP1
        go_wp2_with fail
        refine Calls.mono (HR2.out _ HB2.out) ?_; rintro e w3 ⟨rfl, k3⟩
        have HB3 : Hid (Below w.heap.size w w3) := HB2.out.trans (k3.mono HB2.out.size)
        clear k3 HR2
        go_wp2_with fail
        refine Calls.mono (HT3.out _) ?_; rintro e w4 ⟨h4, k4⟩
        have HB4 : Hid (Below w.heap.size w w4) := HB3.out.trans (k4.mono HB3.out.size)
        cases T with
        | none =>
          have h4' : e = .returned (.tuple #[.slice none 0 0, .int .i64 50]) := h4
          subst h4'
          clear k4 h4 HT3
          go_wp2_with fail
          refine Calls.mono (HT4.out _) ?_; rintro e w5 ⟨h5, k5⟩
          have HB5 : Hid (Below w.heap.size w w5) := HB4.out.trans (k5.mono HB4.out.size)
          have h5' : e = .returned (.tuple #[.slice none 0 0, .int .i64 50]) := h5
          subst h5'
          have HSm : Hid _ := same_is none none 0 0 0 [] rfl (by omega) w5 (.inl ⟨_, _, rfl, rfl⟩) (.inl ⟨_, _, rfl, rfl⟩)
          clear k5 h5 HT4
          go_wp2_with fail
          refine Calls.mono HSm.out ?_; rintro e w6 ⟨rfl, k6⟩
          have HB6 : Hid (Below w.heap.size w w6) := HB5.out.trans (k6.mono HB5.out.size)
          clear k6 HSm
          go_wp2_with fail
          have HTa : Hid _ := take_is ⟨(rowB r).toArray⟩ (HBK.out hpl hpf).2 w6
          rw [(HBK.out hpl hpf).1] at HTa
          refine Calls.mono HTa.out ?_; rintro e w7 ⟨h7, k7⟩
          have HB7 : Hid (Below w.heap.size w w7) := HB6.out.trans (k7.mono HB6.out.size)
          obtain ⟨qa, qc, rfl, rq⟩ := (show ∃ a c, e = .returned (.tuple #[.slice a r.length c, .int .i64 0]) ∧ Row w7 (.slice a r.length c) r from h7)
          have HS7 : Hid _ := same_is qa a qc ca na r HN.out hn3 w7 rq (HR.out.next HB7.out)
          rw [HN.out]
          clear k7 h7 rq HTa
          go_wp2_with fail
          refine Calls.mono HS7.out ?_; rintro e w9 ⟨rfl, k9⟩
          have HB9 : Hid (Below w.heap.size w w9) := HB7.out.trans (k9.mono HB7.out.size)
          clear k9 HS7
          go_wp2_with fail
          refine Calls.mono (HA.out _ (HB9.out)) ?_; rintro e w8 ⟨rfl, k8⟩
          have HB8 : Hid (Below w.heap.size w w8) := k8
          clear k8
          go_wp2_with fail
          go_ret
          exact ⟨rfl, HB8.out⟩
        | some rt =>
          obtain ⟨ta, tc, rfl, R4⟩ := (show ∃ a c, e = .returned (.tuple #[.slice a rt.length c, .int .i64 0]) ∧ Row w4 (.slice a rt.length c) rt from h4)
          have HR4 : Hid (Row w4 (.slice ta rt.length tc) rt) := R4
          obtain ⟨hf1, hf2, hf3, hf4⟩ := HFW.out rt rfl
          have HF : Hid (fits rt ∧ s.data.toList = rowB rt) := ⟨hf2, hf4⟩
          have hrl : rt.length ≤ 255 := hf1
          obtain ⟨nt, hnt⟩ : ∃ nt, rt.length = nt := ⟨_, rfl⟩
          have HNT : Hid (rt.length = nt) := hnt
          rw [hnt] at hrl ⊢
          clear k4 h4 HT3 R4 hf1 hf2 hf3 hf4 HFW hnt
          go_wp2_with fail
          refine Calls.mono (HT4.out _) ?_; rintro e w5 ⟨h5, k5⟩
          have HB5 : Hid (Below w.heap.size w w5) := HB4.out.trans (k5.mono HB4.out.size)
          obtain ⟨ua, uc, rfl, R5⟩ := (show ∃ a c, e = .returned (.tuple #[.slice a rt.length c, .int .i64 0]) ∧ Row w5 (.slice a rt.length c) rt from h5)
          have HR5 : Hid (Row w5 (.slice ta rt.length tc) rt) := HR4.out.next k5
          have HSm : Hid _ := same_is ta ua tc uc nt rt HNT.out (by omega) w5 HR5.out R5
          rw [HNT.out]
          clear k5 h5 HT4 R5
          go_wp2_with fail
          refine Calls.mono HSm.out ?_; rintro e w6 ⟨rfl, k6⟩
          have HB6 : Hid (Below w.heap.size w w6) := HB5.out.trans (k6.mono HB5.out.size)
          have HR6 : Hid (Row w6 (.slice ta rt.length tc) rt) := HR5.out.next k6
          clear k6 HSm HR5 HR4
          go_wp2_with fail
          have HTa : Hid _ := take_is ⟨(rowB r).toArray⟩ (HBK.out hpl hpf).2 w6
          rw [(HBK.out hpl hpf).1] at HTa
          refine Calls.mono HTa.out ?_; rintro e w7 ⟨h7, k7⟩
          have HB7 : Hid (Below w.heap.size w w7) := HB6.out.trans (k7.mono HB6.out.size)
          obtain ⟨qa, qc, rfl, rq⟩ := (show ∃ a c, e = .returned (.tuple #[.slice a r.length c, .int .i64 0]) ∧ Row w7 (.slice a r.length c) r from h7)
          have HS7 : Hid _ := same_is qa a qc ca na r HN.out hn3 w7 rq (HR.out.next HB7.out)
          rw [HN.out]
          have HR7 : Hid (Row w7 (.slice ta rt.length tc) rt) := HR6.out.next k7
          clear k7 h7 rq HTa
          go_wp2_with fail
          refine Calls.mono HS7.out ?_; rintro e w9 ⟨rfl, k9⟩
          have HB9 : Hid (Below w.heap.size w w9) := HB7.out.trans (k9.mono HB7.out.size)
          have HR9 : Hid (Row w9 (.slice ta rt.length tc) rt) := HR7.out.next k9
          clear k9 HS7
          have HPt : Hid _ := put_is ta tc nt rt HNT.out w9 (HR9.out) (fun x hx => by have := HF.out.1 x hx; have hm : mayV x.k x.n x.s := this; unfold mayV at hm; omega) hrl
          have hpr : putR rt = .tuple #[.string s, .int .i64 0] := by
            unfold putR
            rw [if_pos ⟨by have := HNT.out; omega, HF.out.1⟩, ← HF.out.2]
          rw [hpr] at HPt
          clear hpr
          go_wp2_with fail
          refine Calls.mono HPt.out ?_; rintro e w10 ⟨rfl, k10⟩
          have HB10 : Hid (Below w.heap.size w w10) := HB9.out.trans (k10.mono HB9.out.size)
          clear k10 HPt
          go_wp2_with fail
          refine Calls.mono (HA.out _ (HB10.out)) ?_; rintro e w8 ⟨rfl, k8⟩
          have HB8 : Hid (Below w.heap.size w w8) := k8
          clear k8
          go_wp2_with fail
          go_ret
          exact ⟨rfl, HB8.out⟩
      · go_wp2_with fail
        refine Calls.mono HP1.out ?_; rintro e w2 ⟨rfl, k2⟩
        have HB2 : Hid (Below w.heap.size w w2) := HB1.out.trans (k2.mono HB1.out.size)
        clear k2 HP1
        go_wp2_with fail
        refine Calls.mono (HR2.out _ HB2.out) ?_; rintro e w3 ⟨rfl, k3⟩
        have HB3 : Hid (Below w.heap.size w w3) := HB2.out.trans (k3.mono HB2.out.size)
        clear k3 HR2
        go_wp2_with fail
        refine Calls.mono (HT3.out _) ?_; rintro e w4 ⟨h4, k4⟩
        have HB4 : Hid (Below w.heap.size w w4) := HB3.out.trans (k4.mono HB3.out.size)
        cases T with
        | none =>
          have h4' : e = .returned (.tuple #[.slice none 0 0, .int .i64 50]) := h4
          subst h4'
          clear k4 h4 HT3
          go_wp2_with fail
          refine Calls.mono (HT4.out _) ?_; rintro e w5 ⟨h5, k5⟩
          have HB5 : Hid (Below w.heap.size w w5) := HB4.out.trans (k5.mono HB4.out.size)
          have h5' : e = .returned (.tuple #[.slice none 0 0, .int .i64 50]) := h5
          subst h5'
          have HSm : Hid _ := same_is none none 0 0 0 [] rfl (by omega) w5 (.inl ⟨_, _, rfl, rfl⟩) (.inl ⟨_, _, rfl, rfl⟩)
          clear k5 h5 HT4
          go_wp2_with fail
          refine Calls.mono HSm.out ?_; rintro e w6 ⟨rfl, k6⟩
          have HB6 : Hid (Below w.heap.size w w6) := HB5.out.trans (k6.mono HB5.out.size)
          clear k6 HSm
          go_wp2_with fail
          refine Calls.mono (HA.out _ (HB6.out)) ?_; rintro e w8 ⟨rfl, k8⟩
          have HB8 : Hid (Below w.heap.size w w8) := k8
          clear k8
          go_wp2_with fail
          go_ret
          exact ⟨rfl, HB8.out⟩
        | some rt =>
          obtain ⟨ta, tc, rfl, R4⟩ := (show ∃ a c, e = .returned (.tuple #[.slice a rt.length c, .int .i64 0]) ∧ Row w4 (.slice a rt.length c) rt from h4)
          have HR4 : Hid (Row w4 (.slice ta rt.length tc) rt) := R4
          obtain ⟨hf1, hf2, hf3, hf4⟩ := HFW.out rt rfl
          have HF : Hid (fits rt ∧ s.data.toList = rowB rt) := ⟨hf2, hf4⟩
          have hrl : rt.length ≤ 255 := hf1
          obtain ⟨nt, hnt⟩ : ∃ nt, rt.length = nt := ⟨_, rfl⟩
          have HNT : Hid (rt.length = nt) := hnt
          rw [hnt] at hrl ⊢
          clear k4 h4 HT3 R4 hf1 hf2 hf3 hf4 HFW hnt
          go_wp2_with fail
          refine Calls.mono (HT4.out _) ?_; rintro e w5 ⟨h5, k5⟩
          have HB5 : Hid (Below w.heap.size w w5) := HB4.out.trans (k5.mono HB4.out.size)
          obtain ⟨ua, uc, rfl, R5⟩ := (show ∃ a c, e = .returned (.tuple #[.slice a rt.length c, .int .i64 0]) ∧ Row w5 (.slice a rt.length c) rt from h5)
          have HR5 : Hid (Row w5 (.slice ta rt.length tc) rt) := HR4.out.next k5
          have HSm : Hid _ := same_is ta ua tc uc nt rt HNT.out (by omega) w5 HR5.out R5
          rw [HNT.out]
          clear k5 h5 HT4 R5
          go_wp2_with fail
          refine Calls.mono HSm.out ?_; rintro e w6 ⟨rfl, k6⟩
          have HB6 : Hid (Below w.heap.size w w6) := HB5.out.trans (k6.mono HB5.out.size)
          have HR6 : Hid (Row w6 (.slice ta rt.length tc) rt) := HR5.out.next k6
          clear k6 HSm HR5 HR4
          have HPt : Hid _ := put_is ta tc nt rt HNT.out w6 (HR6.out) (fun x hx => by have := HF.out.1 x hx; have hm : mayV x.k x.n x.s := this; unfold mayV at hm; omega) hrl
          have hpr : putR rt = .tuple #[.string s, .int .i64 0] := by
            unfold putR
            rw [if_pos ⟨by have := HNT.out; omega, HF.out.1⟩, ← HF.out.2]
          rw [hpr] at HPt
          clear hpr
          go_wp2_with fail
          refine Calls.mono HPt.out ?_; rintro e w10 ⟨rfl, k10⟩
          have HB10 : Hid (Below w.heap.size w w10) := HB6.out.trans (k10.mono HB6.out.size)
          clear k10 HPt
          go_wp2_with fail
          refine Calls.mono (HA.out _ (HB10.out)) ?_; rintro e w8 ⟨rfl, k8⟩
          have HB8 : Hid (Below w.heap.size w w8) := k8
          clear k8
          go_wp2_with fail
          go_ret
          exact ⟨rfl, HB8.out⟩

set_option maxRecDepth 100000 in
theorem lifted (os : Os) (started : os.Started) (H : Type) (enc : TypeId × Value → H) :
    ReturnsInHanded {} Tryd.checked os 5 .any (fun w args => (Rows.valueBytesSpec.pre enc Tryd.prog Tryd.f5 Rows.valueBytesRow.domain false w args ∧ laidMetH Tryd.prog Rows.valueBytesRow.laid w) ∧ sizedMet enc Tryd.prog Tryd.f5 (OpenSpec.ofChange Rows.valueBytesSpec) false w args) (Rows.valueBytesSpec.post enc Tryd.prog Tryd.f5 false true false false) := by
  refine change_and_shaped (C := Tryd.checked) (X := fun w _ => laidMetH Tryd.prog Rows.valueBytesRow.laid w) (fun _ _ _ hh h => h.of_heap hh) own started (by kernel_rfl) Tryd.func5
    (ChangeSpec.witness_shaped (enc := enc) (C := Tryd.checked) (os := os) (X := fun w _ => laidMetH Tryd.prog Rows.valueBytesRow.laid w) false (World.laidAll Tryd.prog os Rows.valueBytesRow.laid) #[.slice none 0 0, .string ⟨#[]⟩] 8 (World.laidAll_os _ _ _)
      (World.shaped_of_ZipB (by kernel_rfl) (by kernel_rfl)) (by kernel_rfl) (by kernel_rfl) (by kernel_rfl)
      (by rw [MakeChecks.laidMetH_plain _ _ _ (by kernel_rfl)]; exact laidMet_laidAll _ (by kernel_rfl) (by kernel_rfl))) ?_
  intro W base args ds gs before hval0 hW hsh
  have hval : ∀ (j : Nat) t v, Tryd.f5.params[j]? = some t → args[j]? = some v → Value.okWide Tryd.prog W .any base t v := hval0
  have hW' := hW
  obtain ⟨p, q, hA0, hV, rfl, hfz, hnd⟩ := hW
  have hA : DataW.TrodAll enc Tryd.prog W 0 (fun _ => true) true Tryd.f5.params.toList args.toList ds p := hA0
  rw [Tryd.params5] at hA hval
  obtain ⟨v0, vs0, d0, ds0, p0, q0, hargs, rfl, rfl, h0, r0⟩ := trodAll_cons hA
  obtain ⟨v1, vs1, d1, ds1, p1, q1, rfl, rfl, rfl, h1, r1⟩ := trodAll_cons r0
  obtain ⟨rfl, rfl, rfl⟩ := trodAll_nil r1
  obtain rfl : args = #[v0, v1] := by cases args; simp_all
  obtain ⟨rfl, rfl⟩ := trodVars_none hV
  have g0 := h0
  have g1 := h1
  have lt0 : ∀ x ∈ p0, x.block < W.heap.size := by obtain ⟨m, hm⟩ := g0; exact DataW.trod_lt m _ _ _ hm
  have lt1 : ∀ x ∈ p1, x.block < W.heap.size := by obtain ⟨m, hm⟩ := g1; exact DataW.trod_lt m _ _ _ hm
  obtain ⟨a0, len0, cap0, rfl⟩ := okWide_slice Tryd.underlying30 (hval 0 30 v0 rfl rfl)
  obtain ⟨rr, hr0, ht0, hl0, hn0⟩ := open_rowN h0
  obtain ⟨a1, rfl, rfl, rfl, w1⟩ := open_string Tryd.underlying9 (hval 1 9 v1 rfl rfl) h1
  clear hA0 hval0
  simp only [List.append_nil] at hW'
  refine (walk a0 cap0 len0 rr hr0 hl0 hn0 a1 W (glob_of hsh) ht0).mono fun e W' ⟨he, bel⟩ => ?_
  subst he
  exact ⟨_, rfl, _, _, _, [], _, [], hW', trodAll_mk1 (shut_bool Tryd.underlying4 _), (trodAll_cons_mk (Below.trod laidOut (by kernel_rfl) (of_decide_eq_true (by kernel_rfl)) g0 bel lt0) (trodAll_cons_mk (Below.trod laidOut (by kernel_rfl) (of_decide_eq_true (by kernel_rfl)) g1 bel lt1) trodAll_mk0)), rfl, bel.frame _, fun h => by cases h⟩

theorem over : Rows.ValueBytesSaid :=
  OpenClaim.holds_of_wide 5 Tryd.f5 rfl rfl rfl rfl rfl rfl rfl ⟨rfl, rfl, rfl, rfl, rfl⟩ rfl rfl rfl rfl rfl (by kernel_rfl) Tryd.func5 (by kernel_rfl)
    (of_decide_eq_true (by kernel_rfl)) (by unfold Func.isWrapper; first | (rw [if_pos (by decide +kernel)]; kernel_rfl) | (rw [if_neg (by decide +kernel)]; exact ⟨rfl, rfl⟩))
    (fun os started H enc _ => lifted os started H enc)

/-- ████ THE STATEMENT ████ -/
theorem proved : Rows.ValueBytesCardSaid :=
  Claim7.holds_tied_plain_at .later [] [.data, .pinned] true (true, "647c1eda5c3fd17d657d51398d3c79e23436c64eae0fd39fc9353b44211b31c8") false over (fun _ h => by cases h) (by kernel_rfl) (fun _ h => by cases h) valueBytes_row_tie rfl ⟨rfl, rfl⟩ (by kernel_rfl) rfl
    (fun f fn hf hfn => by
      obtain rfl : f = 5 := Option.some.inj ((show Tryd.prog.funcNamed "quayside/quaysidelaw05.ValueBytes" = some 5 by kernel_rfl).symm.trans hf) |>.symm
      obtain rfl : fn = Tryd.f5 := (Option.some.inj (Tryd.func5.symm.trans hfn)).symm
      exact ⟨by kernel_rfl, fun j t ht => by
        rw [Tryd.params5] at ht
        have hm : t ∈ [30, 9] := by simpa using Array.mem_of_getElem? ht
        have hall : ([30, 9].all fun u => !Tryd.prog.wantsStandIn u) = true := by kernel_rfl
        exact (show Tryd.prog.wantsStandIn t = false by simpa using List.all_eq_true.1 hall t hm)⟩)
    (by kernel_rfl)
#print axioms proved
end Go.Proofs.YtmjajlmknncggaaDoor.valueBytes
