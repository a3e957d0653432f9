/- The walk of what was committed stays. -/
import Derived.Test.YtkhpmmmildcceaaGreatQKp
namespace Go.Proofs.YtkhpmmmildcceaaGreat
open Go.ChangeShapes Go.WideShapes Go.ChangeAt Go.RowKit
set_option linter.unusedVariables false
set_option maxRecDepth 100000

theorem dh_crash2 {B : Nat} {w0 w : World} {pd : Nat} {d : Dk} (h : DH B w pd d) (k : Kept (fun i => B ≤ i) w0 w) (hB : w0.heap.size = B) (hn : d.Q.length ≤ 1048576) (u : Value) (ks : List Int) (hu : Ints w0 u ks) (hkl : ks.length ≤ 9223372036854775807) : Calls Tryz.prog 24 #[.pointer (some ⟨pd, 0, none⟩), u] w fun e w' => e = .returned (.int .i64 0) ∧ DH B w' pd (d.crash ks) ∧ Kept (fun i => B ≤ i) w w' := by
  have hz : ∀ (a : Option Addr) (c : Nat), u = .slice a 0 c → ks = [] → Calls Tryz.prog 24 #[.pointer (some ⟨pd, 0, none⟩), u] w fun e w' => e = .returned (.int .i64 0) ∧ DH B w' pd (d.crash ks) ∧ Kept (fun i => B ≤ i) w w' := fun a c e1 e2 => by
    subst e1
    subst e2
    obtain ⟨F, h1, hb⟩ := h
    obtain ⟨bs, bl, v, hl⟩ := h1
    refine (crash_zero hl hn a 0 c (.inl rfl)).mono ?_
    rintro e w' ⟨rfl, v', k1, k2⟩
    refine ⟨rfl, ⟨F, ⟨bs, bl, v', ?_⟩, hb⟩, k2.mono hb⟩
    have e : settled d.S d.last d.Q = Dk.last { d with Q := [], fuse := -1, off := false } := by
      have := settle_torn d.S d.Q []
      simp only [List.zip_nil_right] at this
      exact this
    rw [e] at k1
    have e2 : d.crash [] = { d with Q := [], fuse := -1, off := false } := by unfold Dk.crash; rw [List.zip_nil_right]; rfl
    rw [e2]
    exact k1
  rcases hu with ⟨a, c, q, q2⟩ | ⟨b, o, c, q, hb⟩
  · exact hz a c q q2
  · by_cases e : ks = []
    · subst e
      exact hz _ c q rfl
    · subst q
      have hlt : b < B := by rw [← hB]; exact World.block_lt_of_cell? w0 _ (hb 0 (List.length_pos_iff.2 e))
      refine dh_crash h hn _ ks (.inr ⟨b, o, c, rfl, fun j hj => ?_⟩) (fun a n c' e1 => ?_) hkl
      · exact k.cell (hb j hj) (by show ¬ B ≤ b; omega)
      · cases e1
        exact hlt
set_option maxHeartbeats 8000000 in
theorem keeps_walk (n0 : Int) (hn : -9223372036854775808 ≤ n0 ∧ n0 ≤ 9223372036854775807) (a1 : Option Addr) (len1 cap1 : Nat) (a2 : Option Addr) (len2 cap2 : Nat) (w : World) (xs : Nat → Int) (hc : ∀ j, j < len1 → ∃ b o, a1 = some ⟨b, o, none⟩ ∧ w.cell? ⟨b, o + j, none⟩ = some (.int .i64 (xs j))) (hl1 : len1 ≤ 9223372036854775807) (ks : List Int) (hu : Ints w (.slice a2 len2 cap2) ks) (hkl : ks.length ≤ 9223372036854775807) : Calls Tryz.prog 5 #[.int .i64 n0, .slice a1 len1 cap1, .slice a2 len2 cap2] w fun e w' => e = .returned (.bool true) ∧ Kept (fun _ => False) w w' := by
  have HAW : Hid (∀ V, Calls Tryz.prog 13 #[] V fun e w' => e = .returned (.bool true) ∧ Hid (Kept (fun _ => False) V w')) := fun V => awake_is V
  obtain ⟨ka, hka⟩ : ∃ k : Nat, bits .and .i64 n0 255 = (k : Int) := ⟨(n0 % 256).toNat, by rw [and255]; omega⟩
  have hka2 : ka ≤ 255 := by have := and255 n0; omega
  obtain ⟨km, hkm⟩ : ∃ k : Nat, ka % 5 = k := ⟨_, rfl⟩
  have hmod : ((ka : Int)).tmod 5 = (km : Int) := by rw [Int.tmod_eq_emod_of_nonneg (by omega)]; omega
  have hkm2 : km ≤ 4 := by omega
  obtain ⟨B, hB⟩ : ∃ B, w.heap.size = B := ⟨_, rfl⟩
  have HB : Hid (w.heap.size = B) := hB
  have HSZ : Hid (∀ V, Kept (fun i => B ≤ i) w V → B ≤ V.heap.size) := fun V k => by rw [← HB.out]; exact k.size
  have HC : Hid (∀ V, Kept (fun i => B ≤ i) w V → ∀ j, j < len1 → ∃ b o, a1 = some ⟨b, o, none⟩ ∧ V.cell? ⟨b, o + j, none⟩ = some (.int .i64 (xs j))) := fun V k j hj => by
    obtain ⟨b, o, e, h⟩ := hc j hj
    have hlt : b < w.heap.size := World.block_lt_of_cell? w _ h
    exact ⟨b, o, e, k.cell h (by show ¬ B ≤ b; have := HB.out; omega)⟩
  obtain ⟨FL, hFL⟩ : ∃ FL : Nat → ByteArray, FL = fun j => fill (UInt8.ofNat (98 + j)) := ⟨_, rfl⟩
  obtain ⟨ZL, hZL⟩ : ∃ ZL : ByteArray, ZL = fill 122 := ⟨_, rfl⟩
  have HFL : Hid (∀ (j : Nat) (x : Int) V, j ≤ 4 → x = 98 + (j : Int) → Calls Tryz.prog 20 #[.int .u8 x] V fun e w' => e = .returned (.string (FL j)) ∧ Hid (Kept (fun _ => False) V w')) := fun j x V hj hx => by
    have := filled_is (UInt8.ofNat (98 + j)) V
    rw [UInt8.toNat_ofNat'] at this
    rw [hx, hFL]
    rw [show (((98 + j) % 2 ^ 8 : Nat) : Int) = 98 + (j : Int) by omega] at this
    exact this
  have HZL : Hid (∀ V, Calls Tryz.prog 20 #[.int .u8 122] V fun e w' => e = .returned (.string ZL) ∧ Hid (Kept (fun _ => False) V w')) := fun V => by
    rw [hZL]
    exact filled_is 122 V
  have HNW : Hid (Calls Tryz.prog 8 #[.int .i64 100] w fun e w' => ∃ pd, e = .returned (.tuple #[.pointer (some ⟨pd, 0, none⟩), .int .i64 0]) ∧ Hid (DH B w' pd (fresh 100) ∧ Kept (fun i => B ≤ i) w w')) := by
    refine (dh_new 100 (by omega) (by omega) w).mono ?_
    rintro e w' ⟨pd, q1, q2, q3⟩
    rw [hB] at q2
    exact ⟨pd, q1, q2, q3.mono (fun _ z => z.elim)⟩
  have HOP : Hid (∀ V pd, DH B V pd (fresh 100) → Kept (fun i => B ≤ i) w V → Calls Tryz.prog 9 #[.pointer (some ⟨pd, 0, none⟩), .int .i64 0, .int .i64 96] V fun e w' => ∃ p, e = .returned (.tuple #[.pointer (some ⟨p, 0, none⟩), .int .i64 0]) ∧ Hid ((∃ v, SH B w' p pd v ∧ KA 0 0 v ∧ v.nn = []) ∧ Kept (fun i => B ≤ i) w w')) := fun V pd h kV => by
    refine (sh_open h rfl (HSZ.out V kV) 0 96 9 (by omega) (by show 96 ≤ 100; omega) (by decide)).mono ?_
    rintro e w' ⟨p, t, u, ns, q1, q2, q3, q4, q5⟩
    obtain ⟨rfl, rfl, rfl⟩ := lat_fresh q3
    exact ⟨p, q1, ⟨_, q2, ka_new rfl, rfl⟩, kV.trans q5 (fun _ z => z.elim)⟩
  have HAL : Hid (∀ V p pd j, j ≤ 4 → ((∃ v, SH B V p pd v ∧ KA j j v ∧ v.nn = []) ∧ Kept (fun i => B ≤ i) w V) → Calls Tryz.prog 18 #[.pointer (some ⟨p, 0, none⟩)] V fun e w' => e = .returned (.tuple #[.int .i64 ((j : Int) + 1), .int .i64 0]) ∧ Hid ((∃ v, SH B w' p pd v ∧ KA j (j + 1) v ∧ v.nn = []) ∧ Kept (fun i => B ≤ i) w w')) := fun V p pd j hj ⟨⟨v, h, f, hv⟩, k⟩ => by
    refine (ka_alloc h f hv (by omega) (HSZ.out V k)).mono ?_
    rintro e w' ⟨q1, q2, q3⟩
    exact ⟨q1, q2, k.trans q3 (fun i z => .inl z)⟩
  have HWR : Hid (∀ V V' p pd j, j ≤ 4 → ((∃ v, SH B V p pd v ∧ KA j (j + 1) v ∧ v.nn = []) ∧ Kept (fun i => B ≤ i) w V) → Kept (fun _ => False) V V' → Calls Tryz.prog 19 #[.pointer (some ⟨p, 0, none⟩), .int .i64 ((j : Int) + 1), .string (FL j)] V' fun e w' => e = .returned (.int .i64 0) ∧ Hid ((∃ v, SH B w' p pd v ∧ KA (j + 1) (j + 1) v ∧ v.nn = []) ∧ Kept (fun i => B ≤ i) w w')) := fun V V' p pd j hj ⟨⟨v, h, f, hv⟩, k⟩ k2 => by
    have k3 := k.trans k2 (fun _ z => z.elim)
    rw [hFL]
    refine (ka_write (h.kept k2) f hv (by omega) (HSZ.out V' k3)).mono ?_
    rintro e w' ⟨q1, q2, q3⟩
    exact ⟨q1, q2, k3.trans q3 (fun i z => .inl z)⟩
  have HNA : Hid (∀ V p pd, ((∃ v, SH B V p pd v ∧ KA (km + 1) (km + 1) v ∧ v.nn = []) ∧ Kept (fun i => B ≤ i) w V) → Calls Tryz.prog 21 #[.pointer (some ⟨p, 0, none⟩), .string ⟨#[102, 105, 114, 115, 116]⟩, .int .i64 1] V fun e w' => e = .returned (.int .i64 0) ∧ Hid ((∃ v, SH B w' p pd v ∧ KA (km + 1) (km + 1) v ∧ v.nn = nF) ∧ Kept (fun i => B ≤ i) w w')) := fun V p pd ⟨⟨v, h, f, hv⟩, k⟩ => by
    refine (ka_name h f hv (by omega) (by omega)).mono ?_
    rintro e w' ⟨q1, q2, q3⟩
    exact ⟨q1, q2, k.trans q3 (fun i z => .inl z)⟩
  have HCO : Hid (∀ V p pd, ((∃ v, SH B V p pd v ∧ KA (km + 1) (km + 1) v ∧ v.nn = nF) ∧ Kept (fun i => B ≤ i) w V) → Calls Tryz.prog 22 #[.pointer (some ⟨p, 0, none⟩)] V fun e w' => e = .returned (.int .i64 0) ∧ Hid ((∃ v, SH B w' p pd v ∧ KB (km + 1) 0 v) ∧ Kept (fun i => B ≤ i) w w')) := fun V p pd ⟨⟨v, h, f, hv⟩, k⟩ => by
    refine (ka_commit h f hv (by omega) (by omega) (HSZ.out V k)).mono ?_
    rintro e w' ⟨q1, q2, q3⟩
    exact ⟨q1, q2, k.trans q3 (fun i z => .inl z)⟩
  have HBA : Hid (∀ V p pd i, i ≤ 12 → ((∃ v, SH B V p pd v ∧ KB (km + 1) (8 * i) v) ∧ Kept (fun i => B ≤ i) w V) → Calls Tryz.prog 18 #[.pointer (some ⟨p, 0, none⟩)] V fun e w' => ∃ m er : Int, e = .returned (.tuple #[.int .i64 m, .int .i64 er]) ∧ (er = 0 ∧ ¬ m ≤ 1 + (km : Int) ∨ ¬ er = 0) ∧ Hid ((∃ v, SH B w' p pd v ∧ KB (km + 1) (8 * (i + 1)) v) ∧ Kept (fun i => B ≤ i) w w')) := fun V p pd i hi ⟨⟨v, h, f⟩, k⟩ => by
    refine (kb_alloc h f (by omega) (by omega) (HSZ.out V k)).mono ?_
    rintro e w' ⟨m, er, q1, q2, q3, _, _, ⟨v', q4, q5⟩, q6⟩
    exact ⟨m, er, q1, by omega, ⟨v', q4, q5⟩, k.trans q6 (fun i z => .inl z)⟩
  have HBW : Hid (∀ V V' p pd i x, i ≤ 12 → ((∃ v, SH B V p pd v ∧ KB (km + 1) (8 * i) v) ∧ Kept (fun i => B ≤ i) w V) → Kept (fun _ => False) V V' → Calls Tryz.prog 19 #[.pointer (some ⟨p, 0, none⟩), .int .i64 x, .string ZL] V' fun e w' => ∃ er : Int, e = .returned (.int .i64 er) ∧ (er = 0 ∧ ¬ x ≤ 1 + (km : Int) ∨ ¬ er = 0) ∧ Hid ((∃ v, SH B w' p pd v ∧ KB (km + 1) (8 * (i + 1)) v) ∧ Kept (fun i => B ≤ i) w w')) := fun V V' p pd i x hi ⟨⟨v, h, f⟩, k⟩ k2 => by
    have k3 := k.trans k2 (fun _ z => z.elim)
    rw [hZL]
    refine (kb_write (h.kept k2) f (by omega) (by omega) (HSZ.out V' k3) x _ (fill_size _)).mono ?_
    rintro e w' ⟨er, q1, q2, q3, ⟨v', q4, q5⟩, q6⟩
    exact ⟨er, q1, by omega, ⟨v', q4, q5⟩, k3.trans q6 (fun i z => .inl z)⟩
  have HBR : Hid (∀ V p pd i x, ((∃ v, SH B V p pd v ∧ KB (km + 1) (8 * i) v) ∧ Kept (fun i => B ≤ i) w V) → Calls Tryz.prog 23 #[.pointer (some ⟨p, 0, none⟩), .int .i64 x] V fun e w' => ∃ er : Int, e = .returned (.int .i64 er) ∧ Hid ((∃ v, SH B w' p pd v ∧ KB (km + 1) (8 * (i + 1)) v) ∧ Kept (fun i => B ≤ i) w w')) := fun V p pd i x ⟨⟨v, h, f⟩, k⟩ => by
    refine (kb_release h f x).mono ?_
    rintro e w' ⟨er, q1, q2, q3⟩
    exact ⟨er, q1, q2, k.trans q3 (fun i z => .inl z)⟩
  have HBN : Hid (∀ V p pd i x, ((∃ v, SH B V p pd v ∧ KB (km + 1) (8 * i) v) ∧ Kept (fun i => B ≤ i) w V) → Calls Tryz.prog 21 #[.pointer (some ⟨p, 0, none⟩), .string ⟨#[111, 116, 104, 101, 114]⟩, .int .i64 x] V fun e w' => ∃ er : Int, e = .returned (.int .i64 er) ∧ Hid ((∃ v, SH B w' p pd v ∧ KB (km + 1) (8 * (i + 1)) v) ∧ Kept (fun i => B ≤ i) w w')) := fun V p pd i x ⟨⟨v, h, f⟩, k⟩ => by
    refine (kb_name h f x).mono ?_
    rintro e w' ⟨er, q1, q2, q3⟩
    exact ⟨er, q1, q2, k.trans q3 (fun i z => .inl z)⟩
  have HCR : Hid (∀ V p pd i, i ≤ 12 → ((∃ v, SH B V p pd v ∧ KB (km + 1) (8 * i) v) ∧ Kept (fun i => B ≤ i) w V) → Calls Tryz.prog 24 #[.pointer (some ⟨pd, 0, none⟩), .slice a2 len2 cap2] V fun e w' => e = .returned (.int .i64 0) ∧ Hid ((∃ d, DH B w' pd d ∧ KC (km + 1) d) ∧ Kept (fun i => B ≤ i) w w')) := fun V p pd i hi ⟨⟨v, h, f⟩, k⟩ => by
    refine (dh_crash2 h.dh k HB.out (by have := f.q; omega) _ ks hu hkl).mono ?_
    rintro e w' ⟨q1, q2, q3⟩
    exact ⟨q1, ⟨_, q2, f.crash ks⟩, k.trans q3 (fun i z => .inl z)⟩
  have HO2 : Hid (∀ V pd, ((∃ d, DH B V pd d ∧ KC (km + 1) d) ∧ Kept (fun i => B ≤ i) w V) → Calls Tryz.prog 9 #[.pointer (some ⟨pd, 0, none⟩), .int .i64 0, .int .i64 96] V fun e w' => ∃ p, e = .returned (.tuple #[.pointer (some ⟨p, 0, none⟩), .int .i64 0]) ∧ Hid ((∃ v, SH B w' p pd v ∧ KD (km + 1) v) ∧ Kept (fun i => B ≤ i) w w')) := fun V pd ⟨⟨d, h, f⟩, k⟩ => by
    refine (kc_open h f (by omega) (by omega) (HSZ.out V k)).mono ?_
    rintro e w' ⟨p, q1, q2, q3⟩
    exact ⟨p, q1, q2, k.trans q3 (fun i z => .inl z)⟩
  have HDT : Hid (∀ V p pd, ((∃ v, SH B V p pd v ∧ KD (km + 1) v) ∧ Kept (fun i => B ≤ i) w V) → (Calls Tryz.prog 15 #[.pointer (some ⟨p, 0, none⟩)] V fun e w' => e = .returned (.int .i64 (1 + (km : Int))) ∧ w' = V) ∧ (Calls Tryz.prog 16 #[.pointer (some ⟨p, 0, none⟩)] V fun e w' => e = .returned (.int .i64 1) ∧ w' = V) ∧ (Calls Tryz.prog 17 #[.pointer (some ⟨p, 0, none⟩)] V fun e w' => ∃ a c, e = .returned (.slice a 1 c) ∧ Hid ((∃ v, SH B w' p pd v ∧ KD (km + 1) v) ∧ Kept (fun i => B ≤ i) w w'))) := fun V p pd ⟨⟨v, h, f⟩, k⟩ => by
    have a1 := sh_turn h
    have a2 := sh_used h
    rw [f.tn] at a1
    rw [f.nu, (uN_is (km + 1) (by omega)).2, show ((km + 1 : Nat) : Int) = 1 + (km : Int) by omega] at a2
    refine ⟨a2, a1, (names_one h f.nn).mono ?_⟩
    rintro e w' ⟨a, c, q1, q2⟩
    exact ⟨a, c, q1, ⟨v, h.kept q2, f⟩, k.trans q2 (fun _ z => z.elim)⟩
  have HDR : Hid (∀ V p pd j, j ≤ km → ((∃ v, SH B V p pd v ∧ KD (km + 1) v) ∧ Kept (fun i => B ≤ i) w V) → Calls Tryz.prog 25 #[.pointer (some ⟨p, 0, none⟩), .int .i64 ((j : Int) + 1)] V fun e w' => e = .returned (.tuple #[.string (FL j), .int .i64 0]) ∧ Hid ((∃ v, SH B w' p pd v ∧ KD (km + 1) v) ∧ Kept (fun i => B ≤ i) w w')) := fun V p pd j hj ⟨⟨v, h, f⟩, k⟩ => by
    rw [hFL]
    refine (kd_read h f (by omega) (by omega)).mono ?_
    rintro e w' ⟨q1, q2, q3⟩
    exact ⟨q1, q2, k.trans q3 (fun i z => .inl z)⟩
  have HKD : Hid (∀ V V' p pd, ((∃ v, SH B V p pd v ∧ KD (km + 1) v) ∧ Kept (fun i => B ≤ i) w V) → Kept (fun _ => False) V V' → ((∃ v, SH B V' p pd v ∧ KD (km + 1) v) ∧ Kept (fun i => B ≤ i) w V')) := fun V V' p pd ⟨⟨v, h, f⟩, k⟩ k2 => ⟨⟨v, h.kept k2, f⟩, k.trans k2 (fun _ z => z.elim)⟩
  have ckm : (km : Int) ≤ 4 := by omega
  have cka : (ka : Int) ≤ 255 := by omega
  clear hn hka2 hkm hc hu hkl hFL hZL hB
  go_enter Tryz.func5, Tryz.ntmps5
  go_wp2_with fail
  refine Calls.mono HNW.out ?_; rintro e w1 ⟨pd, rfl, H1⟩
  go_wp2_with fail
  refine Calls.mono (HOP.out w1 pd H1.out.1 H1.out.2) ?_; rintro e w2 ⟨p, rfl, H2⟩
  clear H1 HNW HOP
  go_wp2_with fail
  go_loopw [12] (fun v12 wr => ∃ j : Nat, j ≤ km + 1 ∧ v12 = .int .i64 ((j : Int) + 1) ∧ Hid ((∃ v, SH B wr p pd v ∧ KA j j v ∧ v.nn = []) ∧ Kept (fun i => B ≤ i) w wr)) (fun v12 _ => km + 3 - (intOf v12).toNat)
  case atStart => exact ⟨0, Nat.zero_le _, rfl, H2.out⟩
  case round =>
    obtain ⟨j, hj, rfl, HJ⟩ := hrel
    clear H2
    by_cases hjn : j < km + 1
    · have cj : (j : Int) + 1 ≤ 1 + (km : Int) := by omega
      have hj4 : j ≤ 4 := by omega
      go_wp2_with fail
      refine Calls.mono (HAL.out wr p pd j hj4 HJ.out) ?_; rintro e w4 ⟨rfl, H4⟩
      clear HJ
      go_wp2_with fail
      refine Calls.mono (HFL.out j _ w4 hj4 (by first | omega | (simp [IntKind.wrap, IntKind.bits, IntKind.signed]; omega))) ?_; rintro e w5 ⟨rfl, K5⟩
      go_wp2_with fail
      refine Calls.mono (HWR.out w4 w5 p pd j hj4 H4.out K5.out) ?_; rintro e w6 ⟨rfl, H6⟩
      go_wp2_with fail
      go_roundw
      case rel => exact ⟨j + 1, hjn, by rw [Int.natCast_add]; rfl, H6.out⟩
      case measure => simp only [intOf]; omega
    · obtain rfl : j = km + 1 := by omega
      have cj : ¬ ((km + 1 : Nat) : Int) + 1 ≤ 1 + (km : Int) := by omega
      have HN1 : Hid _ := HNA.out wr p pd HJ.out
      clear HJ HAL HWR
      go_wp2_with fail
      refine Calls.mono HN1.out ?_; rintro e w4 ⟨rfl, H4⟩
      clear HN1
      go_wp2_with fail
      refine Calls.mono (HCO.out w4 p pd H4.out) ?_; rintro e w5 ⟨rfl, H5⟩
      clear H4 cj hjn hj
      go_wp2_with fail
      go_loopw [15] (fun v15 wr => ∃ i : Nat, i ≤ 12 ∧ v15 = .int .i64 (i : Int) ∧ Hid ((∃ v, SH B wr p pd v ∧ KB (km + 1) (8 * i) v) ∧ Kept (fun i => B ≤ i) w wr)) (fun v15 _ => 14 - (intOf v15).toNat)
      case atStart => exact ⟨0, Nat.zero_le _, rfl, H5.out⟩
      case round =>
        obtain ⟨i, hi, rfl, HI⟩ := hrel
        clear H5
        by_cases hil : i < len1
        · have cil : (i : Int) < (len1 : Int) := by omega
          by_cases hi12 : i < 12
          · have ci12 : (i : Int) < 12 := by omega
            obtain ⟨b, o, ha, hcell⟩ := HC.out wr HI.out.2 i hil
            subst ha
            have HR : Hid _ := HBR.out wr p pd i (bits .and .i64 (xs i / 4) 15) HI.out
            obtain ⟨x, hx⟩ : ∃ x, xs i = x := ⟨_, rfl⟩
            rw [hx] at hcell HR
            clear hx
            have h4 := and3 x
            have h40 : x % 4 = 0 ∨ x % 4 = 1 ∨ x % 4 = 2 ∨ x % 4 = 3 := by omega
            rcases h40 with q | q | q | q
            · rw [q] at h4
              clear q
              go_wp2_with fail
              refine Calls.mono (HBR.out wr p pd i _ HI.out) ?_; rintro e w4 ⟨er, rfl, H4⟩
              clear HI HR
              go_wp2_with fail
              go_roundw
              case rel => exact ⟨i + 1, hi12, by rw [Int.natCast_add]; rfl, H4.out⟩
              case measure => simp only [intOf]; omega
            · rw [q] at h4
              clear q
              go_wp2_with fail
              refine Calls.mono (HBA.out wr p pd i hi HI.out) ?_; rintro e w4 ⟨m, er, rfl, hm, H4⟩
              clear HI HR
              rcases hm with ⟨rfl, hm⟩ | hm
              · go_wp2_with fail
                go_roundw
                case rel => exact ⟨i + 1, hi12, by rw [Int.natCast_add]; rfl, H4.out⟩
                case measure => simp only [intOf]; omega
              · go_wp2_with fail
                go_roundw
                case rel => exact ⟨i + 1, hi12, by rw [Int.natCast_add]; rfl, H4.out⟩
                case measure => simp only [intOf]; omega
            · rw [q] at h4
              clear q
              go_wp2_with fail
              refine Calls.mono (HZL.out wr) ?_; rintro e w4 ⟨rfl, K4⟩
              go_wp2_with fail
              refine Calls.mono (HBW.out wr w4 p pd i _ hi HI.out K4.out) ?_; rintro e w5 ⟨er, rfl, hm, H5⟩
              clear HI HR
              rcases hm with ⟨rfl, hm⟩ | hm
              · go_wp2_with fail
                go_roundw
                case rel => exact ⟨i + 1, hi12, by rw [Int.natCast_add]; rfl, H5.out⟩
                case measure => simp only [intOf]; omega
              · go_wp2_with fail
                go_roundw
                case rel => exact ⟨i + 1, hi12, by rw [Int.natCast_add]; rfl, H5.out⟩
                case measure => simp only [intOf]; omega
            · rw [q] at h4
              clear q
              go_wp2_with fail
              refine Calls.mono (HBN.out wr p pd i _ HI.out) ?_; rintro e w4 ⟨er, rfl, H4⟩
              clear HI HR
              go_wp2_with fail
              go_roundw
              case rel => exact ⟨i + 1, hi12, by rw [Int.natCast_add]; rfl, H4.out⟩
              case measure => simp only [intOf]; omega
          · have ci12 : ¬ (i : Int) < 12 := by omega
            have cld : ∃ b o, a1 = some ⟨b, o, none⟩ := by
              obtain ⟨b, o, ha, _⟩ := HC.out wr HI.out.2 i hil
              exact ⟨b, o, ha⟩
            have HX : Hid _ := HCR.out wr p pd i hi HI.out
            clear HI HCR HBA HBW HBR HBN HCO HNA HC
            go_wp2_with fail
            refine Calls.mono HX.out ?_; rintro e w6 ⟨rfl, H6⟩
            clear HX
            go_wp2_with fail
            refine Calls.mono (HO2.out w6 pd H6.out) ?_; rintro e w7 ⟨p2, rfl, H7⟩
            clear H6 HO2
            obtain ⟨r1, r2, r3⟩ := HDT.out w7 p2 pd H7.out
            have HR1 : Hid _ := r1
            have HR2 : Hid _ := r2
            have HR3 : Hid _ := r3
            clear r1 r2 r3 HDT
            go_wp2_with fail
            refine Calls.mono HR1.out ?_; rintro e w8 ⟨rfl, rfl⟩
            go_wp2_with fail
            refine Calls.mono HR2.out ?_; rintro e w9 ⟨rfl, rfl⟩
            go_wp2_with fail
            refine Calls.mono HR3.out ?_; rintro e w10 ⟨na, nc, rfl, H10⟩
            clear HR1 HR2 HR3 H7
            go_wp2_with fail
            go_loopw [22] (fun v22 wr => ∃ j : Nat, j ≤ km + 1 ∧ v22 = .int .i64 ((j : Int) + 1) ∧ Hid ((∃ v, SH B wr p2 pd v ∧ KD (km + 1) v) ∧ Kept (fun i => B ≤ i) w wr)) (fun v22 _ => km + 3 - (intOf v22).toNat)
            case atStart => exact ⟨0, Nat.zero_le _, rfl, H10.out⟩
            case round =>
              obtain ⟨j, hj, rfl, HJ⟩ := hrel
              clear H10
              by_cases hjn : j < km + 1
              · have cj : (j : Int) + 1 ≤ 1 + (km : Int) := by omega
                have hj4 : j ≤ 4 := by omega
                have hjk : j ≤ km := by omega
                go_wp2_with fail
                refine Calls.mono (HDR.out _ p2 pd j hjk HJ.out) ?_; rintro e w11 ⟨rfl, H11⟩
                clear HJ
                go_wp2_with fail
                refine Calls.mono (HFL.out j _ w11 hj4 (by first | omega | (simp [IntKind.wrap, IntKind.bits, IntKind.signed]; omega))) ?_; rintro e w12 ⟨rfl, K12⟩
                have H12 : Hid _ := HKD.out w11 w12 p2 pd H11.out K12.out
                clear H11 K12
                go_wp2_with fail
                go_roundw
                case rel => exact ⟨j + 1, hjn, by rw [Int.natCast_add]; rfl, H12.out⟩
                case measure => simp only [intOf]; omega
              · obtain rfl : j = km + 1 := by omega
                have cj : ¬ ((km + 1 : Nat) : Int) + 1 ≤ 1 + (km : Int) := by omega
                clear HFL HDR HKD
                go_wp2_with fail
                refine Calls.mono (HAW.out _) ?_; rintro e w11 ⟨rfl, HM⟩
                go_wp2_with fail
                go_ret
                refine ⟨rfl, ?_⟩
                have kk := HJ.out.2.trans HM.out (fun _ z => z.elim)
                exact ⟨kk.os, kk.tape, kk.output, kk.size, fun i hi _ => kk.block i hi (by have := HB.out; omega)⟩
        · have cil : ¬ (i : Int) < (len1 : Int) := by omega
          have HX : Hid _ := HCR.out wr p pd i hi HI.out
          clear HI HCR HBA HBW HBR HBN HCO HNA HC
          go_wp2_with fail
          refine Calls.mono HX.out ?_; rintro e w6 ⟨rfl, H6⟩
          clear HX
          go_wp2_with fail
          refine Calls.mono (HO2.out w6 pd H6.out) ?_; rintro e w7 ⟨p2, rfl, H7⟩
          clear H6 HO2
          obtain ⟨r1, r2, r3⟩ := HDT.out w7 p2 pd H7.out
          have HR1 : Hid _ := r1
          have HR2 : Hid _ := r2
          have HR3 : Hid _ := r3
          clear r1 r2 r3 HDT
          go_wp2_with fail
          refine Calls.mono HR1.out ?_; rintro e w8 ⟨rfl, rfl⟩
          go_wp2_with fail
          refine Calls.mono HR2.out ?_; rintro e w9 ⟨rfl, rfl⟩
          go_wp2_with fail
          refine Calls.mono HR3.out ?_; rintro e w10 ⟨na, nc, rfl, H10⟩
          clear HR1 HR2 HR3 H7
          go_wp2_with fail
          go_loopw [22] (fun v22 wr => ∃ j : Nat, j ≤ km + 1 ∧ v22 = .int .i64 ((j : Int) + 1) ∧ Hid ((∃ v, SH B wr p2 pd v ∧ KD (km + 1) v) ∧ Kept (fun i => B ≤ i) w wr)) (fun v22 _ => km + 3 - (intOf v22).toNat)
          case atStart => exact ⟨0, Nat.zero_le _, rfl, H10.out⟩
          case round =>
            obtain ⟨j, hj, rfl, HJ⟩ := hrel
            clear H10
            by_cases hjn : j < km + 1
            · have cj : (j : Int) + 1 ≤ 1 + (km : Int) := by omega
              have hj4 : j ≤ 4 := by omega
              have hjk : j ≤ km := by omega
              go_wp2_with fail
              refine Calls.mono (HDR.out _ p2 pd j hjk HJ.out) ?_; rintro e w11 ⟨rfl, H11⟩
              clear HJ
              go_wp2_with fail
              refine Calls.mono (HFL.out j _ w11 hj4 (by first | omega | (simp [IntKind.wrap, IntKind.bits, IntKind.signed]; omega))) ?_; rintro e w12 ⟨rfl, K12⟩
              have H12 : Hid _ := HKD.out w11 w12 p2 pd H11.out K12.out
              clear H11 K12
              go_wp2_with fail
              go_roundw
              case rel => exact ⟨j + 1, hjn, by rw [Int.natCast_add]; rfl, H12.out⟩
              case measure => simp only [intOf]; omega
            · obtain rfl : j = km + 1 := by omega
              have cj : ¬ ((km + 1 : Nat) : Int) + 1 ≤ 1 + (km : Int) := by omega
              clear HFL HDR HKD
              go_wp2_with fail
              refine Calls.mono (HAW.out _) ?_; rintro e w11 ⟨rfl, HM⟩
              go_wp2_with fail
              go_ret
              refine ⟨rfl, ?_⟩
              have kk := HJ.out.2.trans HM.out (fun _ z => z.elim)
              exact ⟨kk.os, kk.tape, kk.output, kk.size, fun i hi _ => kk.block i hi (by have := HB.out; omega)⟩
end Go.Proofs.YtkhpmmmildcceaaGreat
