/- The document's Add. -/
import Derived.Test.YthfhjfemcmdmfaaMf
import Derived.Test.YthfhjfemcmdmfaaAwake
import Derived.Deep.DeepCutAuto
import Derived.ControlIn
import Derived.Deep.RegionHeld
import Derived.Deep.CutBlock
namespace Go.Proofs.Ythfhjfemcmdmfaa
open Go.ChangeShapes Go.WideShapes Go.ChangeAt Go.RowKit
set_option linter.unusedVariables false
set_option maxRecDepth 100000

theorem Rd.set4 {w3 : World} {x b c k : Nat} {u : Option Addr} {d : Dk} (h : Rd w3 b c u k d) (ht : Other w3 x) (v0 v1 v2 v3 : Value) : Rd ((((w3.setCell ⟨x, 0, none⟩ v0).setCell ⟨x, 1, none⟩ v1).setCell ⟨x, 2, none⟩ v2).setCell ⟨x, 3, none⟩ v3) b c u k d :=
  ⟨own_other h.sure (.inl rfl) (set4_kept w3 x v0 v1 v2 v3) (fun i hi => by rw [hi]; exact ht), own_other h.wait (.inr rfl) (set4_kept w3 x v0 v1 v2 v3) (fun i hi => by rw [hi]; exact ht)⟩
theorem Bx.setd {w wr : World} {D L : List Value} (h : Bx w wr D L) (hl : D.length = 4) (v0 v1 v2 v3 : Value) : Bx w ((((wr.setCell ⟨w.heap.size, 0, none⟩ v0).setCell ⟨w.heap.size, 1, none⟩ v1).setCell ⟨w.heap.size, 2, none⟩ v2).setCell ⟨w.heap.size, 3, none⟩ v3) [v0, v1, v2, v3] L := by
  have kk := set4_kept wr w.heap.size v0 v1 v2 v3
  exact ⟨CellsF.four h.d hl v0 v1 v2 v3, h.l.kept kk (by omega), h.rd.kept kk (by omega), h.rl.kept kk (by omega), h.k.trans kk (fun i hi => .inr (Nat.le_of_eq hi.symm)), Nat.le_trans h.sz kk.size, fun i hi => ((((Other.set (h.tg i hi) 0 v0).set 1 v1).set 2 v2).set 3 v3)⟩
theorem Rd.fin {w wr W : World} {D L : List Value} {b c k : Nat} {u : Option Addr} {d : Dk} (h : Rd wr b c u k d) (hb : Bx w wr D L) (kk : Kept (fun i => i = w.heap.size + 1 + 1 ∨ i = w.heap.size + 1 + 1 + 1) wr W) : Rd W b c u k d :=
  ⟨own_other h.sure (.inl rfl) kk (fun i hi => hb.tg i (by omega)), own_other h.wait (.inr rfl) kk (fun i hi => hb.tg i (by omega))⟩
theorem ne_new {N x s : Nat} (h1 : N + 4 ≤ s) (h2 : s ≤ x) : (N + 1 + 1 ≠ x ∧ N + 1 + 1 ≠ N + 1) ∧ (N + 1 + 1 + 1 ≠ x ∧ N + 1 + 1 + 1 ≠ N + 1) := by omega
theorem Bx.setl {w wr : World} {D : List Value} {l0 l1 l2 l3 l4 : Value} (h : Bx w wr D [l0, l1, l2, l3, l4]) (v u : Value) : Bx w ((wr.setCell ⟨w.heap.size + 1, 3, none⟩ v).setCell ⟨w.heap.size + 1, 4, none⟩ u) D [l0, l1, l2, v, u] ∧ Kept (fun i => i = w.heap.size + 1) wr ((wr.setCell ⟨w.heap.size + 1, 3, none⟩ v).setCell ⟨w.heap.size + 1, 4, none⟩ u) := by
  have k1 := (Kept.refl (fun i => i = w.heap.size + 1) wr).setCell (p := ⟨w.heap.size + 1, 3, none⟩) (.inl rfl) v
  have kk := k1.setCell (p := ⟨w.heap.size + 1, 4, none⟩) (.inl rfl) u
  exact ⟨⟨h.d.kept kk (by omega), (h.l.set 3 v (by simp)).set 4 u (by simp), h.rd.kept kk (by omega), h.rl.kept kk (by omega), h.k.trans kk (fun i hi => .inr (by omega)), Nat.le_trans h.sz kk.size, fun i hi => (Other.set (h.tg i hi) 3 v).set 4 u⟩, kk⟩
theorem add_lists {wr : World} {la ga : Option Addr} {rl lc gc : Nat} {R g : List ByteArray} (hR : wr.ownsRow 0 9 1 (.slice la rl lc) rl (sv R)) (hRl : R.length = rl) (hz : la = none → lc = 0) (hR2 : rl ≤ 100000) (hg : Texts wr (.slice ga g.length gc) g) (hgz : ga = none → gc = 0) (hgl : g.length ≤ 8) :
    ∃ v5 w5 a6 c6 w6, (Builtin.append_ #[26, 26] 26 #[.slice none 0 0, .slice la rl lc]).run Try.prog wr = .ok v5 w5 ∧ (Builtin.append_ #[26, 26] 26 #[v5, .slice ga g.length gc]).run Try.prog w5 = .ok (.slice a6 (R ++ g).length c6) w6 ∧ w6.ownsRow 0 9 1 (.slice a6 (R ++ g).length c6) (R ++ g).length (sv (R ++ g)) ∧ Kept (fun _ => False) wr w6 ∧ ∀ i, (Value.slice a6 (R ++ g).length c6).ownBlock = some i → wr.heap.size ≤ i := by
  subst hRl
  obtain ⟨v5, w5, r1, o1, g1⟩ := appT (w := wr) (v := .slice none 0 0) (l := []) (base := wr.heap.size) (World.ownsRow_nil _ _ _ _) la lc R (own_texts hR) hz (by simp; omega) (Nat.le_refl _)
  rw [List.nil_append] at o1
  have k1 : Kept (fun _ => False) wr w5 := (Kept.refl _ wr).grown g1 (fun i hi => by cases hi)
  obtain ⟨v6, w6, r2, o2, g2⟩ := appT o1 ga gc g (hg.kept k1 (fun _ _ _ _ q => q)) hgz (by omega) k1.size
  have k2 : Kept (fun i => wr.heap.size ≤ i) w5 w6 := (Kept.refl _ w5).grown g2 (fun i hi => .inl (o1.lt i hi).1)
  obtain ⟨a6, c6, rfl⟩ := own_form o2
  exact ⟨v5, w5, a6, c6, w6, r1, r2, own_weak o2 (Nat.zero_le _), k1.trans k2 (fun i hi => .inr hi), fun i hi => (o2.lt i hi).1⟩
theorem min_cast {nn A q dd : Nat} (h : nn = min 32 (A - q)) (hd : A - q = dd) : min (32 : Int) (dd : Int) = (nn : Int) := by omega
theorem nn_facts {nn A q : Nat} (h : nn = min 32 (A - q)) (h1 : q < A) (hA : A ≤ 8192) : nn ≤ 32 ∧ q + nn ≤ A ∧ IntKind.i64.wrap ((q : Int) + (nn : Int)) = ((q + nn : Nat) : Int) ∧ wrap64 ((q : Int) + (nn : Int)) = ((q + nn : Nat) : Int) := by
  refine ⟨by omega, by omega, ?_, ?_⟩
  · rw [IntKind.wrap_i64]; omega
  · unfold wrap64; omega
theorem min_nn {A q : Nat} (h1 : q < A) (hA : A ≤ 8192) : IntKind.i64.wrap ((A : Int) - (q : Int)) = ((A - q : Nat) : Int) ∧ wrap64 ((A : Int) - (q : Int)) = ((A - q : Nat) : Int) := by
  refine ⟨?_, ?_⟩
  · rw [IntKind.wrap_i64]; omega
  · unfold wrap64; omega
theorem quo32 (us : Nat) (h : us ≤ 8192) : IntKind.i64.wrap ((us : Int).tdiv 32) = ((us / 32 : Nat) : Int) ∧ wrap64 ((us : Int).tdiv 32) = ((us / 32 : Nat) : Int) ∧ us / 32 ≤ 256 := by
  refine ⟨?_, ?_, by omega⟩
  · rw [IntKind.wrap_i64, Int.tdiv_eq_ediv_of_nonneg (by omega)]; omega
  · rw [Int.tdiv_eq_ediv_of_nonneg (by omega)]; unfold wrap64; omega
theorem many_b (us : Nat) (g : List ByteArray) (room : Nat) (h : us + sizeG g ≤ room) (hB : room ≤ 8192) : manyG us g ≤ 300 := by
  unfold manyG manyS
  split <;> omega
theorem all_size (Y : ByteArray) (t : Nat) (g : List ByteArray) : (allB Y t g).size = Y.size + sizeG g := by
  show (Y.data.toList ++ frames t g).toArray.size = _
  have hyl : Y.data.toList.length = Y.size := by simp
  rw [List.size_toArray, List.length_append, frames_len, hyl]
theorem full_no {room us : Nat} {g : List ByteArray} {i : Nat} (h : FullAt room us g i = false) (htk : g.take i = g) : us + sizeG g ≤ room := by
  unfold FullAt at h
  have := of_decide_eq_false h
  rw [htk] at this
  omega
theorem full_yes {room us : Nat} {g : List ByteArray} {i : Nat} (h : FullAt room us g i = true) (htk : g.take i = g) : room < us + sizeG g := by
  unfold FullAt at h
  have := of_decide_eq_true h
  rw [htk] at this
  exact this
set_option maxHeartbeats 16000000 in
theorem ref_add {w w0 : World} {F : Nat → Prop} {p : Nat} {d : Dk} (hdk : Disk w0 F p d) (hlv : d.live) (hQd : d.Q.length ≤ 900000) (b c n m k : Nat) (u : Option Addr) (df : Int) (hrd : Rd w b c u k d) (hn : d.n = n) (hm : d.Q.length = m) (hdf : d.fuse = df) (a B t : Nat) (hab : a < B) (hBn : B ≤ d.n) (hB : B ≤ 256) (ht : 1 ≤ t ∧ t ≤ 2147483647) (la : Option Addr) (rl lc : Nat) (R : List ByteArray) (hR : w.ownsRow 0 9 1 (.slice la rl lc) rl (sv R)) (hRl : R.length = rl) (hR2 : rl ≤ 100000) (Y : ByteArray) (hY : Y.size ≤ 32 * (B - a)) (hH : Heldf d a B Y.data.toList) (ga : Option Addr) (gc : Nat) (g : List ByteArray) (hg : Texts w (.slice ga g.length gc) g) (hgz : ga = none → gc = 0) (hgl : g.length ≤ 8) (hgs : ∀ s, s ∈ g → s.size ≤ 4096) (Q : Ending → World → Prop)
    (hbad : ¬ mayG g → ∀ w', Kept (fun _ => False) w w' → Q (.returned (.tuple #[.agg #[.slice (some ⟨b, 0, none⟩) n c, .slice u m k, .int .i64 df, .bool false], .agg #[.int .i64 (a : Int), .int .i64 (B : Int), .int .i64 (t : Int), .slice la rl lc, .string Y], .int .i64 1])) w')
    (hfull : mayG g → 32 * (B - a) < Y.size + sizeG g → ∀ w', Kept (fun _ => False) w w' → Q (.returned (.tuple #[.agg #[.slice (some ⟨b, 0, none⟩) n c, .slice u m k, .int .i64 df, .bool false], .agg #[.int .i64 (a : Int), .int .i64 (B : Int), .int .i64 (t : Int), .slice la rl lc, .string Y], .int .i64 2])) w')
    (hok : mayG g → Y.size + sizeG g ≤ 32 * (B - a) → (∀ i, i < manyG Y.size g → (PD d a Y t g i).on = true) → ∀ w' u' k' la' lc', Kept (fun _ => False) w w' → Rd w' b c u' k' (PD d a Y t g (manyG Y.size g)) → w'.ownsRow 0 9 1 (.slice la' (R ++ g).length lc') (R ++ g).length (sv (R ++ g)) → (∀ i, (Value.slice la' (R ++ g).length lc').ownBlock = some i → w.heap.size ≤ i) → (manyG Y.size g = 0 → u' = u ∧ k' = k) → Q (.returned (.tuple #[.agg #[.slice (some ⟨b, 0, none⟩) n c, .slice u' (PD d a Y t g (manyG Y.size g)).Q.length k', .int .i64 (PD d a Y t g (manyG Y.size g)).fuse, .bool false], .agg #[.int .i64 (a : Int), .int .i64 (B : Int), .int .i64 (t : Int), .slice la' (R ++ g).length lc', .string (allB Y t g)], .int .i64 0])) w')
    (hoff : mayG g → Y.size + sizeG g ≤ 32 * (B - a) → ∀ j, j < manyG Y.size g → (∀ i, i < j → (PD d a Y t g i).on = true) → (PD d a Y t g j).on = false → ∀ w' u' k', Kept (fun _ => False) w w' → Rd w' b c u' k' (PD d a Y t g (j + 1)) → Q (.returned (.tuple #[.agg #[.slice (some ⟨b, 0, none⟩) n c, .slice u' (PD d a Y t g (j + 1)).Q.length k', .int .i64 (PD d a Y t g (j + 1)).fuse, .bool (PD d a Y t g (j + 1)).off], .agg #[.int .i64 (a : Int), .int .i64 (B : Int), .int .i64 (t : Int), .slice la rl lc, .string Y], .int .i64 30])) w') :
    Calls Try.prog 42 #[.agg #[.slice (some ⟨b, 0, none⟩) n c, .slice u m k, .int .i64 df, .bool false], .agg #[.int .i64 (a : Int), .int .i64 (B : Int), .int .i64 (t : Int), .slice la rl lc, .string Y], .slice ga g.length gc] w Q := by
  obtain ⟨gl, hgl0⟩ : ∃ gl, g.length = gl := ⟨_, rfl⟩
  have HG : Hid (g.length = gl ∧ Texts w (.slice ga g.length gc) g ∧ ∀ s, s ∈ g → s.size ≤ 4096) := ⟨hgl0, hg, hgs⟩
  have HOK : Hid _ := hok
  have HOFF : Hid _ := hoff
  have HRD : Hid (Rd w b c u k d ∧ d.n = n ∧ d.Q.length = m ∧ d.fuse = df ∧ d.live ∧ d.Q.length ≤ 900000 ∧ Disk w0 F p d ∧ B ≤ d.n ∧ a < B ∧ Heldf d a B Y.data.toList) := ⟨hrd, hn, hm, hdf, hlv, hQd, hdk, hBn, hab, hH⟩
  have HAB : Hid (B ≤ 256) := hB
  have HRR : Hid (w.ownsRow 0 9 1 (.slice la rl lc) rl (sv R) ∧ R.length = rl ∧ (ga = none → gc = 0) ∧ (la = none → lc = 0)) := ⟨hR, hRl, hgz, fun e => by subst e; rcases hR.2 with ⟨q, _⟩ | ⟨_, _, _, q, _⟩ <;> cases q; rfl⟩
  have HBAD : Hid (¬ mayG g → ∀ w', Kept (fun _ => False) w w' → Q (.returned (.tuple #[.agg #[.slice (some ⟨b, 0, none⟩) n c, .slice u m k, .int .i64 df, .bool false], .agg #[.int .i64 (a : Int), .int .i64 (B : Int), .int .i64 (t : Int), .slice la rl lc, .string Y], .int .i64 1])) w') := hbad
  have HFULL : Hid (mayG g → 32 * (B - a) < Y.size + sizeG g → ∀ w', Kept (fun _ => False) w w' → Q (.returned (.tuple #[.agg #[.slice (some ⟨b, 0, none⟩) n c, .slice u m k, .int .i64 df, .bool false], .agg #[.int .i64 (a : Int), .int .i64 (B : Int), .int .i64 (t : Int), .slice la rl lc, .string Y], .int .i64 2])) w') := hfull
  rw [hgl0] at hgl ⊢
  obtain ⟨room, hroom⟩ : ∃ room, 32 * (B - a) = room := ⟨_, rfl⟩
  have HRM : Hid (32 * (B - a) = room) := hroom
  have hr1 : IntKind.i64.wrap (32 * IntKind.i64.wrap ((B : Int) - (a : Int))) = (room : Int) := by rw [IntKind.wrap_i64, IntKind.wrap_i64]; omega
  have hr2 : wrap64 (32 * wrap64 ((B : Int) - (a : Int))) = (room : Int) := by unfold wrap64; omega
  have hrm : room ≤ 8192 := by omega
  obtain ⟨us, hus⟩ : ∃ us, Y.size = us := ⟨_, rfl⟩
  have HUS : Hid (Y.size = us) := hus
  have husr : us ≤ room := by omega
  have HB0 : Hid _ := Bx.start w (.slice (some ⟨b, 0, none⟩) n c) (.slice u m k) (.int .i64 df) (.bool false) (.int .i64 (a : Int)) (.int .i64 (B : Int)) (.int .i64 (t : Int)) (.slice la rl lc) (.string Y)
  obtain ⟨W0, hW0⟩ : ∃ W0, (((w.alloc (.cells #[.slice (some ⟨b, 0, none⟩) n c, .slice u m k, .int .i64 df, .bool false] 37)).alloc (.cells #[.int .i64 (a : Int), .int .i64 (B : Int), .int .i64 (t : Int), .slice la rl lc, .string Y] 44)).alloc (.cells #[.slice none 0 0, .slice none 0 0, .int .i64 0, .bool false] 37)).alloc (.cells #[.int .i64 0, .int .i64 0, .int .i64 0, .slice none 0 0, .string ⟨#[]⟩] 44) = W0 := ⟨_, rfl⟩
  rw [hW0] at HB0
  obtain ⟨v1, w1, ra1, ho1, hg1⟩ := append_own (w := W0) (v := .slice none 0 0) (l := []) (B := w.heap.size + 4) (World.ownsRow_nil _ _ _ _) Y (by simp; omega) HB0.out.sz
  rw [List.nil_append] at ho1
  have HB1 : Hid (Bx w w1 [.slice (some ⟨b, 0, none⟩) n c, .slice u m k, .int .i64 df, .bool false] [.int .i64 (a : Int), .int .i64 (B : Int), .int .i64 (t : Int), .slice la rl lc, .string Y]) := HB0.out.step ((Kept.refl _ W0).grown hg1 (fun i hi => by cases hi))
  have RA1 : Hid ((Builtin.append_ #[80, 9] 80 #[.slice none 0 0, .string Y]).run Try.prog W0 = .ok v1 w1) := ra1
  have hyl : Y.data.toList.length = Y.size := by simp
  have HG0 : Hid (Gat w w1 v1 Y t room us g 0) := ⟨⟨Y.data.toList, ho1, by omega, fun _ => by simp [frames]⟩, fun s hs => by simp at hs⟩
  have HW0 : Hid ((((w.alloc (.cells #[.slice (some ⟨b, 0, none⟩) n c, .slice u m k, .int .i64 df, .bool false] 37)).alloc (.cells #[.int .i64 (a : Int), .int .i64 (B : Int), .int .i64 (t : Int), .slice la rl lc, .string Y] 44)).alloc (.cells #[.slice none 0 0, .slice none 0 0, .int .i64 0, .bool false] 37)).alloc (.cells #[.int .i64 0, .int .i64 0, .int .i64 0, .slice none 0 0, .string ⟨#[]⟩] 44) = W0) := hW0
  have HFO : Hid (∀ z : ByteArray, z.size ≠ 0 ∧ z.size ≤ 1024 → ∀ w', Calls Try.prog 10 #[.int .i64 (t : Int), .string z] w' fun e w'' => e = .returned (.tuple #[.string (frameS t z), .int .i64 0]) ∧ Hid (Kept (fun _ => False) w' w'')) := fun z hz w' => rframe_is t z ht hz w'
  have HFN : Hid (∀ z : ByteArray, z.size ≤ 4096 → ¬ (z.size ≠ 0 ∧ z.size ≤ 1024) → ∀ w', Calls Try.prog 10 #[.int .i64 (t : Int), .string z] w' fun e w'' => e = .returned (.tuple #[.string ⟨#[]⟩, .int .i64 1]) ∧ Hid (Kept (fun _ => False) w' w'')) := fun z h1 hz w' => (rframe_no t z (by omega) (fun q => hz q.2) w').mono fun e w'' ⟨q1, q2⟩ => ⟨q1, by subst q2; exact Kept.refl _ _⟩
  have y0 : W0.cell? ⟨w.heap.size + 1, 0, none⟩ = some (.int .i64 (a : Int)) := HB0.out.l.cs 0 _ rfl
  have y1 : W0.cell? ⟨w.heap.size + 1, 1, none⟩ = some (.int .i64 (B : Int)) := HB0.out.l.cs 1 _ rfl
  have y4 : W0.cell? ⟨w.heap.size + 1, 4, none⟩ = some (.string Y) := HB0.out.l.cs 4 _ rfl
  clear hyl hbad hfull hok hoff hrd hn hm hdf hlv hQd hdk hBn hH hR hRl hgz hg hgs hW0 HB0 ra1 ho1 hg1 hus hroom hab hB
  go_enter Try.func42, Try.ntmps42
  go_upto_region 1 with fail
  rw [HW0.out]
  clear HW0
  go_wp2_with (first | ((with_reducible apply st_append (x := .tmp 29)); (case ho => rfl); (case hgd => rfl); (case hr => exact RA1.out)))
  clear RA1 y0 y1 y4
  go_loopw [10, 11, 12] (fun v10 v11 v12 wr => ∃ (i : Nat) (vv : Value), i ≤ gl ∧ vv = v10 ∧ v11 = .bool (FullAt room us g i) ∧ v12 = .int .i64 i ∧ Hid (Bx w wr [.slice (some ⟨b, 0, none⟩) n c, .slice u m k, .int .i64 df, .bool false] [.int .i64 (a : Int), .int .i64 (B : Int), .int .i64 (t : Int), .slice la rl lc, .string Y] ∧ Gat w wr vv Y t room us g i))
    (fun _ _ vi _ => gl - (intOf vi).toNat)
  case atStart => exact ⟨0, v1, Nat.zero_le _, rfl, by unfold FullAt; rw [decide_eq_false (by simp [sizeG]; omega)], rfl, HB1.out, HG0.out⟩
  case round =>
    clear HB1 HG0
    obtain ⟨i, vv, hi, rfl, rfl, rfl, HI⟩ := hrel
    by_cases hlt : i < gl
    · have hlti : (i : Int) < (gl : Int) := by omega
      have hil : i < g.length := by rw [HG.out.1]; exact hlt
      obtain ⟨gb, go, hga, z0⟩ := HG.out.2.1.cell i hil
      subst hga
      have hzs : g[i].size ≤ 4096 := HG.out.2.2 _ (List.getElem_mem hil)
      have HST : Hid (sizeG (g.take (i + 1)) = sizeG (g.take i) + (10 + g[i].size) ∧ frames t (g.take (i + 1)) = frames t (g.take i) ++ (frameS t g[i]).data.toList ∧ g.take (i + 1) = g.take i ++ [g[i]] ∧ (mayG g → g[i].size ≠ 0 ∧ g[i].size ≤ 1024)) := ⟨sizeG_take hil, frames_take hil, List.take_succ_eq_append_getElem hil, fun h => h _ (List.getElem_mem hil)⟩
      generalize g[i] = z at *
      have HSA : Hid (∀ W, Kept (fun _ => False) wr W → (W.cell? ⟨w.heap.size + 1, 2, none⟩ = some (.int .i64 (t : Int)) ∧ W.cell? ⟨gb, go + i, none⟩ = some (.string z))) := fun W q => ⟨(HI.out.1.l.step q).cs 2 _ rfl, (q.cell (HI.out.1.k.cell z0 (fun x => x)) (fun x => x))⟩
      have HS0 : Hid (wr.drew.cell? ⟨w.heap.size + 1, 2, none⟩ = some (.int .i64 (t : Int)) ∧ wr.drew.cell? ⟨gb, go + i, none⟩ = some (.string z)) := HSA.out _ (Kept.refl _ _).drew
      have hS0 := HSA.out wr (Kept.refl _ _)
      clear z0
      by_cases hz : z.size ≠ 0 ∧ z.size ≤ 1024
      · have HC : Hid (Calls Try.prog 10 #[.int .i64 (t : Int), .string z] wr.drew fun e w'' => e = .returned (.tuple #[.string (frameS t z), .int .i64 0]) ∧ Hid (Kept (fun _ => False) wr w'') ∧ (w''.cell? ⟨w.heap.size + 1, 2, none⟩ = some (.int .i64 (t : Int)) ∧ w''.cell? ⟨gb, go + i, none⟩ = some (.string z))) := (HFO.out z hz wr.drew).mono fun e w'' ⟨q1, q2⟩ => ⟨q1, ((Kept.refl _ _).drew).trans q2.out (fun _ x => x.elim), HSA.out _ (((Kept.refl _ _).drew).trans q2.out (fun _ x => x.elim))⟩
        obtain ⟨fr, hfr⟩ : ∃ fr, frameS t z = fr := ⟨_, rfl⟩
        have HFS : Hid (frameS t z = fr ∧ fr.size = 10 + z.size) := ⟨hfr, by rw [← hfr]; exact frameS_size t z⟩
        rw [hfr] at HC
        have HZ : Hid (z.size ≠ 0 ∧ z.size ≤ 1024) := hz
        clear hfr hz HFO HFN
        go_wp2_with fail
        go_region_held (fun (w' : World) => (w'.cell? ⟨w.heap.size + 1, 2, none⟩ = some (.int .i64 (t : Int)) ∧ w'.cell? ⟨gb, go + i, none⟩ = some (.string z))) (first | (with_reducible assumption) | (with_reducible exact HS0.out))
          (first | ((with_reducible refine Calls.mono HC.out ?_); rintro e w2 ⟨rfl, HK2, hS2⟩))
        have HI2 : Hid (Bx w w2 [.slice (some ⟨b, 0, none⟩) n c, .slice u m k, .int .i64 df, .bool false] [.int .i64 (a : Int), .int .i64 (B : Int), .int .i64 (t : Int), .slice la rl lc, .string Y] ∧ Gat w w2 vv Y t room us g i) := ⟨HI.out.1.next HK2.out, ⟨by obtain ⟨l, q1, q2, q3⟩ := HI.out.2.own; exact ⟨l, q1.kept HK2.out, q2, q3⟩, HI.out.2.may⟩⟩
        clear HI hS2 hS0 HS0 HSA HC HK2
        try simp only [Exit.then]
        obtain ⟨l, ho, hll, hlf⟩ := HI2.out.2.own
        have HMY : Hid (mayG (g.take (i + 1))) := fun s hs => by
          rw [HST.out.2.2.1] at hs
          rcases List.mem_append.1 hs with q | q
          · exact HI2.out.2.may s q
          · rw [List.mem_singleton] at q; subst q; exact HZ.out
        cases hF : FullAt room us g i with
        | true =>
          have HF1 : Hid (FullAt room us g (i + 1) = true) := by
            show _ = _
            unfold FullAt at hF ⊢
            rw [HST.out.1]
            have := of_decide_eq_true hF
            exact decide_eq_true (by omega)
          have HN : Hid (Bx w w2 [.slice (some ⟨b, 0, none⟩) n c, .slice u m k, .int .i64 df, .bool false] [.int .i64 (a : Int), .int .i64 (B : Int), .int .i64 (t : Int), .slice la rl lc, .string Y] ∧ Gat w w2 vv Y t room us g (i + 1)) := ⟨HI2.out.1, ⟨⟨l, ho, hll, fun q => by rw [HF1.out] at q; cases q⟩, HMY.out⟩⟩
          clear ho hll hlf HI2 HMY HST
          go_wp2_with fail
          go_roundw
          case rel => exact ⟨i + 1, vv, by omega, rfl, by rw [HF1.out], by go_num, HN.out⟩
          case measure => simp [intOf]; omega
        | false =>
          have hle : us + sizeG (g.take i) ≤ room := by unfold FullAt at hF; have := of_decide_eq_false hF; omega
          have el := hlf hF
          have hlen : l.length = us + sizeG (g.take i) := by
            rw [el, List.length_append, frames_len]
            have : Y.data.toList.length = Y.size := by simp
            have := HUS.out
            omega
          obtain ⟨va, vcap, hvf⟩ := own_form ho
          obtain ⟨ln, hln⟩ : ∃ ln, l.length = ln := ⟨_, rfl⟩
          rw [hln] at hvf
          subst hvf
          obtain ⟨v3, w3, ra, ho3, hg3⟩ := append_own ho fr (by have := HFS.out.2; omega) HI2.out.1.sz
          have RA : Hid ((Builtin.append_ #[80, 9] 80 #[.slice va ln vcap, .string fr]).run Try.prog w2 = .ok v3 w3) := ra
          have hk3 : Kept (fun i => w.heap.size + 4 ≤ i) w2 w3 := (Kept.refl _ w2).grown hg3 (fun i hi => .inl (ho.lt i hi).1)
          have hB3 := HI2.out.1.step hk3
          have hfs := HFS.out.2
          have hfl : fr.data.toList.length = fr.size := by simp
          by_cases hov : room < us + sizeG (g.take (i + 1))
          · have HF1 : Hid (FullAt room us g (i + 1) = true) := decide_eq_true hov
            have hgt : (fr.size : Int) > (room : Int) - (ln : Int) := by have := HST.out.1; omega
            have HN : Hid (Bx w w2 [.slice (some ⟨b, 0, none⟩) n c, .slice u m k, .int .i64 df, .bool false] [.int .i64 (a : Int), .int .i64 (B : Int), .int .i64 (t : Int), .slice la rl lc, .string Y] ∧ Gat w w2 (.slice va ln vcap) Y t room us g (i + 1)) := ⟨HI2.out.1, ⟨⟨l, ho, hll, fun q => by rw [HF1.out] at q; cases q⟩, HMY.out⟩⟩
            have hlnb : ln ≤ 8192 := by omega
            clear ho hlf HI2 HMY HST ra ho3 hg3 RA hk3 hB3 hfs hfl el hlen hov hle
            go_wp2_with fail
            go_roundw
            case rel => exact ⟨i + 1, _, by omega, rfl, by rw [HF1.out], by go_num, HN.out⟩
            case measure => simp [intOf]; omega
          · have HF1 : Hid (FullAt room us g (i + 1) = false) := decide_eq_false hov
            have hgt : ¬ (fr.size : Int) > (room : Int) - (ln : Int) := by have := HST.out.1; omega
            have HN : Hid (Bx w w3 [.slice (some ⟨b, 0, none⟩) n c, .slice u m k, .int .i64 df, .bool false] [.int .i64 (a : Int), .int .i64 (B : Int), .int .i64 (t : Int), .slice la rl lc, .string Y] ∧ Gat w w3 v3 Y t room us g (i + 1)) := ⟨hB3, ⟨⟨_, ho3, by rw [List.length_append]; omega, fun _ => by rw [el, HST.out.2.1, List.append_assoc, HFS.out.1]⟩, HMY.out⟩⟩
            have hlnb : ln ≤ 8192 := by omega
            clear ho hlf HI2 HMY HST ra ho3 hg3 hk3 hB3 hfs hfl el hlen hov hle
            go_wp2_with (first | ((with_reducible apply st_append (x := .tmp 66)); (case ho => rfl); (case hgd => rfl); (case hr => exact RA.out)))
            go_roundw
            case rel => exact ⟨i + 1, v3, by omega, rfl, by rw [HF1.out], by go_num, HN.out⟩
            case measure => simp [intOf]; omega
      · have HC : Hid (Calls Try.prog 10 #[.int .i64 (t : Int), .string z] wr.drew fun e w'' => e = .returned (.tuple #[.string ⟨#[]⟩, .int .i64 1]) ∧ Hid (Kept (fun _ => False) wr w'') ∧ (w''.cell? ⟨w.heap.size + 1, 2, none⟩ = some (.int .i64 (t : Int)) ∧ w''.cell? ⟨gb, go + i, none⟩ = some (.string z))) := (HFN.out z hzs hz wr.drew).mono fun e w'' ⟨q1, q2⟩ => ⟨q1, ((Kept.refl _ _).drew).trans q2.out (fun _ x => x.elim), HSA.out _ (((Kept.refl _ _).drew).trans q2.out (fun _ x => x.elim))⟩
        have HZ : Hid (¬ mayG g) := fun h => hz (HST.out.2.2.2 h)
        clear hz HFO HFN HST
        go_wp2_with fail
        go_region_held (fun (w' : World) => (w'.cell? ⟨w.heap.size + 1, 2, none⟩ = some (.int .i64 (t : Int)) ∧ w'.cell? ⟨gb, go + i, none⟩ = some (.string z))) (first | (with_reducible assumption) | (with_reducible exact HS0.out))
          (first | ((with_reducible refine Calls.mono HC.out ?_); rintro e w2 ⟨rfl, HK2, hS2⟩))
        have HI2 : Hid (Bx w w2 [.slice (some ⟨b, 0, none⟩) n c, .slice u m k, .int .i64 df, .bool false] [.int .i64 (a : Int), .int .i64 (B : Int), .int .i64 (t : Int), .slice la rl lc, .string Y]) := HI.out.1.next HK2.out
        clear HI hS2 hS0 HS0 HSA HC HK2
        try simp only [Exit.then]
        have r0 := HI2.out.rd.cs 0 _ rfl
        have r1 := HI2.out.rd.cs 1 _ rfl
        have r2 := HI2.out.rd.cs 2 _ rfl
        have r3 := HI2.out.rd.cs 3 _ rfl
        have rf := HI2.out.rd.fz
        have s0 := HI2.out.rl.cs 0 _ rfl
        have s1 := HI2.out.rl.cs 1 _ rfl
        have s2 := HI2.out.rl.cs 2 _ rfl
        have s3 := HI2.out.rl.cs 3 _ rfl
        have s4 := HI2.out.rl.cs 4 _ rfl
        have sf := HI2.out.rl.fz
        have HS0 : Hid (w2.drew.cell? ⟨w.heap.size, 0, none⟩ = some (.slice (some ⟨b, 0, none⟩) n c) ∧ w2.drew.cell? ⟨w.heap.size, 1, none⟩ = some (.slice u m k) ∧ w2.drew.cell? ⟨w.heap.size, 2, none⟩ = some (.int .i64 df) ∧ w2.drew.cell? ⟨w.heap.size, 3, none⟩ = some (.bool false) ∧ w2.drew.cell? ⟨w.heap.size + 1, 0, none⟩ = some (.int .i64 (a : Int)) ∧ w2.drew.cell? ⟨w.heap.size + 1, 1, none⟩ = some (.int .i64 (B : Int)) ∧ w2.drew.cell? ⟨w.heap.size + 1, 2, none⟩ = some (.int .i64 (t : Int)) ∧ w2.drew.cell? ⟨w.heap.size + 1, 3, none⟩ = some (.slice la rl lc) ∧ w2.drew.cell? ⟨w.heap.size + 1, 4, none⟩ = some (.string Y)) := ⟨HI2.out.d.cs 0 _ rfl, HI2.out.d.cs 1 _ rfl, HI2.out.d.cs 2 _ rfl, HI2.out.d.cs 3 _ rfl, HI2.out.l.cs 0 _ rfl, HI2.out.l.cs 1 _ rfl, HI2.out.l.cs 2 _ rfl, HI2.out.l.cs 3 _ rfl, HI2.out.l.cs 4 _ rfl⟩
        have hS0 := HS0.out
        have HSW : Hid (w2.cell? ⟨w.heap.size, 0, none⟩ = some (.slice (some ⟨b, 0, none⟩) n c) ∧ w2.cell? ⟨w.heap.size, 1, none⟩ = some (.slice u m k) ∧ w2.cell? ⟨w.heap.size, 2, none⟩ = some (.int .i64 df) ∧ w2.cell? ⟨w.heap.size, 3, none⟩ = some (.bool false) ∧ w2.cell? ⟨w.heap.size + 1, 0, none⟩ = some (.int .i64 (a : Int)) ∧ w2.cell? ⟨w.heap.size + 1, 1, none⟩ = some (.int .i64 (B : Int)) ∧ w2.cell? ⟨w.heap.size + 1, 2, none⟩ = some (.int .i64 (t : Int)) ∧ w2.cell? ⟨w.heap.size + 1, 3, none⟩ = some (.slice la rl lc) ∧ w2.cell? ⟨w.heap.size + 1, 4, none⟩ = some (.string Y)) := HS0.out
        have HS4 : Hid (∀ (v0 v1 v2 v3 : Value), (((((w2.setCell ⟨w.heap.size + 1 + 1, 0, none⟩ v0).setCell ⟨w.heap.size + 1 + 1, 1, none⟩ v1).setCell ⟨w.heap.size + 1 + 1, 2, none⟩ v2).setCell ⟨w.heap.size + 1 + 1, 3, none⟩ v3).drew.cell? ⟨w.heap.size, 0, none⟩ = some (.slice (some ⟨b, 0, none⟩) n c) ∧ ((((w2.setCell ⟨w.heap.size + 1 + 1, 0, none⟩ v0).setCell ⟨w.heap.size + 1 + 1, 1, none⟩ v1).setCell ⟨w.heap.size + 1 + 1, 2, none⟩ v2).setCell ⟨w.heap.size + 1 + 1, 3, none⟩ v3).drew.cell? ⟨w.heap.size, 1, none⟩ = some (.slice u m k) ∧ ((((w2.setCell ⟨w.heap.size + 1 + 1, 0, none⟩ v0).setCell ⟨w.heap.size + 1 + 1, 1, none⟩ v1).setCell ⟨w.heap.size + 1 + 1, 2, none⟩ v2).setCell ⟨w.heap.size + 1 + 1, 3, none⟩ v3).drew.cell? ⟨w.heap.size, 2, none⟩ = some (.int .i64 df) ∧ ((((w2.setCell ⟨w.heap.size + 1 + 1, 0, none⟩ v0).setCell ⟨w.heap.size + 1 + 1, 1, none⟩ v1).setCell ⟨w.heap.size + 1 + 1, 2, none⟩ v2).setCell ⟨w.heap.size + 1 + 1, 3, none⟩ v3).drew.cell? ⟨w.heap.size, 3, none⟩ = some (.bool false) ∧ ((((w2.setCell ⟨w.heap.size + 1 + 1, 0, none⟩ v0).setCell ⟨w.heap.size + 1 + 1, 1, none⟩ v1).setCell ⟨w.heap.size + 1 + 1, 2, none⟩ v2).setCell ⟨w.heap.size + 1 + 1, 3, none⟩ v3).drew.cell? ⟨w.heap.size + 1, 0, none⟩ = some (.int .i64 (a : Int)) ∧ ((((w2.setCell ⟨w.heap.size + 1 + 1, 0, none⟩ v0).setCell ⟨w.heap.size + 1 + 1, 1, none⟩ v1).setCell ⟨w.heap.size + 1 + 1, 2, none⟩ v2).setCell ⟨w.heap.size + 1 + 1, 3, none⟩ v3).drew.cell? ⟨w.heap.size + 1, 1, none⟩ = some (.int .i64 (B : Int)) ∧ ((((w2.setCell ⟨w.heap.size + 1 + 1, 0, none⟩ v0).setCell ⟨w.heap.size + 1 + 1, 1, none⟩ v1).setCell ⟨w.heap.size + 1 + 1, 2, none⟩ v2).setCell ⟨w.heap.size + 1 + 1, 3, none⟩ v3).drew.cell? ⟨w.heap.size + 1, 2, none⟩ = some (.int .i64 (t : Int)) ∧ ((((w2.setCell ⟨w.heap.size + 1 + 1, 0, none⟩ v0).setCell ⟨w.heap.size + 1 + 1, 1, none⟩ v1).setCell ⟨w.heap.size + 1 + 1, 2, none⟩ v2).setCell ⟨w.heap.size + 1 + 1, 3, none⟩ v3).drew.cell? ⟨w.heap.size + 1, 3, none⟩ = some (.slice la rl lc) ∧ ((((w2.setCell ⟨w.heap.size + 1 + 1, 0, none⟩ v0).setCell ⟨w.heap.size + 1 + 1, 1, none⟩ v1).setCell ⟨w.heap.size + 1 + 1, 2, none⟩ v2).setCell ⟨w.heap.size + 1 + 1, 3, none⟩ v3).drew.cell? ⟨w.heap.size + 1, 4, none⟩ = some (.string Y))) := fun v0 v1 v2 v3 => s9_set4d w2 (by omega) v0 v1 v2 v3 HSW.out
        have HS5 : Hid (∀ (v0 v1 v2 v3 x0 x1 x2 x3 x4 : Value), ((((((((((w2.setCell ⟨w.heap.size + 1 + 1, 0, none⟩ v0).setCell ⟨w.heap.size + 1 + 1, 1, none⟩ v1).setCell ⟨w.heap.size + 1 + 1, 2, none⟩ v2).setCell ⟨w.heap.size + 1 + 1, 3, none⟩ v3).setCell ⟨w.heap.size + 1 + 1 + 1, 0, none⟩ x0).setCell ⟨w.heap.size + 1 + 1 + 1, 1, none⟩ x1).setCell ⟨w.heap.size + 1 + 1 + 1, 2, none⟩ x2).setCell ⟨w.heap.size + 1 + 1 + 1, 3, none⟩ x3).setCell ⟨w.heap.size + 1 + 1 + 1, 4, none⟩ x4).drew.cell? ⟨w.heap.size, 0, none⟩ = some (.slice (some ⟨b, 0, none⟩) n c) ∧ (((((((((w2.setCell ⟨w.heap.size + 1 + 1, 0, none⟩ v0).setCell ⟨w.heap.size + 1 + 1, 1, none⟩ v1).setCell ⟨w.heap.size + 1 + 1, 2, none⟩ v2).setCell ⟨w.heap.size + 1 + 1, 3, none⟩ v3).setCell ⟨w.heap.size + 1 + 1 + 1, 0, none⟩ x0).setCell ⟨w.heap.size + 1 + 1 + 1, 1, none⟩ x1).setCell ⟨w.heap.size + 1 + 1 + 1, 2, none⟩ x2).setCell ⟨w.heap.size + 1 + 1 + 1, 3, none⟩ x3).setCell ⟨w.heap.size + 1 + 1 + 1, 4, none⟩ x4).drew.cell? ⟨w.heap.size, 1, none⟩ = some (.slice u m k) ∧ (((((((((w2.setCell ⟨w.heap.size + 1 + 1, 0, none⟩ v0).setCell ⟨w.heap.size + 1 + 1, 1, none⟩ v1).setCell ⟨w.heap.size + 1 + 1, 2, none⟩ v2).setCell ⟨w.heap.size + 1 + 1, 3, none⟩ v3).setCell ⟨w.heap.size + 1 + 1 + 1, 0, none⟩ x0).setCell ⟨w.heap.size + 1 + 1 + 1, 1, none⟩ x1).setCell ⟨w.heap.size + 1 + 1 + 1, 2, none⟩ x2).setCell ⟨w.heap.size + 1 + 1 + 1, 3, none⟩ x3).setCell ⟨w.heap.size + 1 + 1 + 1, 4, none⟩ x4).drew.cell? ⟨w.heap.size, 2, none⟩ = some (.int .i64 df) ∧ (((((((((w2.setCell ⟨w.heap.size + 1 + 1, 0, none⟩ v0).setCell ⟨w.heap.size + 1 + 1, 1, none⟩ v1).setCell ⟨w.heap.size + 1 + 1, 2, none⟩ v2).setCell ⟨w.heap.size + 1 + 1, 3, none⟩ v3).setCell ⟨w.heap.size + 1 + 1 + 1, 0, none⟩ x0).setCell ⟨w.heap.size + 1 + 1 + 1, 1, none⟩ x1).setCell ⟨w.heap.size + 1 + 1 + 1, 2, none⟩ x2).setCell ⟨w.heap.size + 1 + 1 + 1, 3, none⟩ x3).setCell ⟨w.heap.size + 1 + 1 + 1, 4, none⟩ x4).drew.cell? ⟨w.heap.size, 3, none⟩ = some (.bool false) ∧ (((((((((w2.setCell ⟨w.heap.size + 1 + 1, 0, none⟩ v0).setCell ⟨w.heap.size + 1 + 1, 1, none⟩ v1).setCell ⟨w.heap.size + 1 + 1, 2, none⟩ v2).setCell ⟨w.heap.size + 1 + 1, 3, none⟩ v3).setCell ⟨w.heap.size + 1 + 1 + 1, 0, none⟩ x0).setCell ⟨w.heap.size + 1 + 1 + 1, 1, none⟩ x1).setCell ⟨w.heap.size + 1 + 1 + 1, 2, none⟩ x2).setCell ⟨w.heap.size + 1 + 1 + 1, 3, none⟩ x3).setCell ⟨w.heap.size + 1 + 1 + 1, 4, none⟩ x4).drew.cell? ⟨w.heap.size + 1, 0, none⟩ = some (.int .i64 (a : Int)) ∧ (((((((((w2.setCell ⟨w.heap.size + 1 + 1, 0, none⟩ v0).setCell ⟨w.heap.size + 1 + 1, 1, none⟩ v1).setCell ⟨w.heap.size + 1 + 1, 2, none⟩ v2).setCell ⟨w.heap.size + 1 + 1, 3, none⟩ v3).setCell ⟨w.heap.size + 1 + 1 + 1, 0, none⟩ x0).setCell ⟨w.heap.size + 1 + 1 + 1, 1, none⟩ x1).setCell ⟨w.heap.size + 1 + 1 + 1, 2, none⟩ x2).setCell ⟨w.heap.size + 1 + 1 + 1, 3, none⟩ x3).setCell ⟨w.heap.size + 1 + 1 + 1, 4, none⟩ x4).drew.cell? ⟨w.heap.size + 1, 1, none⟩ = some (.int .i64 (B : Int)) ∧ (((((((((w2.setCell ⟨w.heap.size + 1 + 1, 0, none⟩ v0).setCell ⟨w.heap.size + 1 + 1, 1, none⟩ v1).setCell ⟨w.heap.size + 1 + 1, 2, none⟩ v2).setCell ⟨w.heap.size + 1 + 1, 3, none⟩ v3).setCell ⟨w.heap.size + 1 + 1 + 1, 0, none⟩ x0).setCell ⟨w.heap.size + 1 + 1 + 1, 1, none⟩ x1).setCell ⟨w.heap.size + 1 + 1 + 1, 2, none⟩ x2).setCell ⟨w.heap.size + 1 + 1 + 1, 3, none⟩ x3).setCell ⟨w.heap.size + 1 + 1 + 1, 4, none⟩ x4).drew.cell? ⟨w.heap.size + 1, 2, none⟩ = some (.int .i64 (t : Int)) ∧ (((((((((w2.setCell ⟨w.heap.size + 1 + 1, 0, none⟩ v0).setCell ⟨w.heap.size + 1 + 1, 1, none⟩ v1).setCell ⟨w.heap.size + 1 + 1, 2, none⟩ v2).setCell ⟨w.heap.size + 1 + 1, 3, none⟩ v3).setCell ⟨w.heap.size + 1 + 1 + 1, 0, none⟩ x0).setCell ⟨w.heap.size + 1 + 1 + 1, 1, none⟩ x1).setCell ⟨w.heap.size + 1 + 1 + 1, 2, none⟩ x2).setCell ⟨w.heap.size + 1 + 1 + 1, 3, none⟩ x3).setCell ⟨w.heap.size + 1 + 1 + 1, 4, none⟩ x4).drew.cell? ⟨w.heap.size + 1, 3, none⟩ = some (.slice la rl lc) ∧ (((((((((w2.setCell ⟨w.heap.size + 1 + 1, 0, none⟩ v0).setCell ⟨w.heap.size + 1 + 1, 1, none⟩ v1).setCell ⟨w.heap.size + 1 + 1, 2, none⟩ v2).setCell ⟨w.heap.size + 1 + 1, 3, none⟩ v3).setCell ⟨w.heap.size + 1 + 1 + 1, 0, none⟩ x0).setCell ⟨w.heap.size + 1 + 1 + 1, 1, none⟩ x1).setCell ⟨w.heap.size + 1 + 1 + 1, 2, none⟩ x2).setCell ⟨w.heap.size + 1 + 1 + 1, 3, none⟩ x3).setCell ⟨w.heap.size + 1 + 1 + 1, 4, none⟩ x4).drew.cell? ⟨w.heap.size + 1, 4, none⟩ = some (.string Y))) := fun v0 v1 v2 v3 x0 x1 x2 x3 x4 => s9_set5d _ (by omega) x0 x1 x2 x3 x4 (s9_set4 w2 (by omega) v0 v1 v2 v3 HSW.out)
        obtain ⟨W, hW, hl1, hl2, hk, hk2⟩ := HI2.out.fin (.slice (some ⟨b, 0, none⟩) n c) (.slice u m k) (.int .i64 df) (.bool false)
        have HF : Hid ((((((((((w2.setCell ⟨w.heap.size + 1 + 1, 0, none⟩ (.slice (some ⟨b, 0, none⟩) n c)).setCell ⟨w.heap.size + 1 + 1, 1, none⟩ (.slice u m k)).setCell ⟨w.heap.size + 1 + 1, 2, none⟩ (.int .i64 df)).setCell ⟨w.heap.size + 1 + 1, 3, none⟩ (.bool false)).setCell ⟨w.heap.size + 1 + 1 + 1, 0, none⟩ (.int .i64 (a : Int))).setCell ⟨w.heap.size + 1 + 1 + 1, 1, none⟩ (.int .i64 (B : Int))).setCell ⟨w.heap.size + 1 + 1 + 1, 2, none⟩ (.int .i64 (t : Int))).setCell ⟨w.heap.size + 1 + 1 + 1, 3, none⟩ (.slice la rl lc)).setCell ⟨w.heap.size + 1 + 1 + 1, 4, none⟩ (.string Y)).drew = W) := hW
        have HL1 : Hid _ := hl1
        have HL2 : Hid _ := hl2
        have HKW : Hid (Kept (fun _ => False) w W) := hk
        have HKW2 : Hid _ := hk2
        clear hW hl1 hl2 hk hk2
        go_wp2_with fail
        go_region_held (fun (w' : World) => (w'.cell? ⟨w.heap.size, 0, none⟩ = some (.slice (some ⟨b, 0, none⟩) n c) ∧ w'.cell? ⟨w.heap.size, 1, none⟩ = some (.slice u m k) ∧ w'.cell? ⟨w.heap.size, 2, none⟩ = some (.int .i64 df) ∧ w'.cell? ⟨w.heap.size, 3, none⟩ = some (.bool false) ∧ w'.cell? ⟨w.heap.size + 1, 0, none⟩ = some (.int .i64 (a : Int)) ∧ w'.cell? ⟨w.heap.size + 1, 1, none⟩ = some (.int .i64 (B : Int)) ∧ w'.cell? ⟨w.heap.size + 1, 2, none⟩ = some (.int .i64 (t : Int)) ∧ w'.cell? ⟨w.heap.size + 1, 3, none⟩ = some (.slice la rl lc) ∧ w'.cell? ⟨w.heap.size + 1, 4, none⟩ = some (.string Y))) (first | (with_reducible assumption) | (with_reducible exact HS0.out) | (with_reducible exact HS4.out _ _ _ _) | (with_reducible exact HS5.out _ _ _ _ _ _ _ _ _))
          (first | fail)
        all_goals go_wp2_with fail
        all_goals rw [HF.out]
        all_goals refine bodyPost_ret (results_two rfl rfl rfl HL1.out HL2.out) rfl ?_
        all_goals exact HBAD.out HZ.out _ HKW.out
    · have hlti : ¬ (i : Int) < (gl : Int) := by omega
      obtain rfl : i = gl := by omega
      have htk : g.take i = g := List.take_of_length_le (by rw [HG.out.1]; exact Nat.le_refl _)
      have HMG : Hid (mayG g) := by have := HI.out.2.may; rw [htk] at this; exact this
      clear HFO HFN HBAD
      cases hF : FullAt room us g i with
      | true =>
        have HZ : Hid (mayG g ∧ 32 * (B - a) < Y.size + sizeG g) := ⟨HMG.out, by rw [HRM.out, HUS.out]; exact full_yes hF htk⟩
        have HI2 : Hid (Bx w wr [.slice (some ⟨b, 0, none⟩) n c, .slice u m k, .int .i64 df, .bool false] [.int .i64 (a : Int), .int .i64 (B : Int), .int .i64 (t : Int), .slice la rl lc, .string Y]) := HI.out.1
        clear HI hF htk HOK HOFF
        have r0 := HI2.out.rd.cs 0 _ rfl
        have r1 := HI2.out.rd.cs 1 _ rfl
        have r2 := HI2.out.rd.cs 2 _ rfl
        have r3 := HI2.out.rd.cs 3 _ rfl
        have rf := HI2.out.rd.fz
        have s0 := HI2.out.rl.cs 0 _ rfl
        have s1 := HI2.out.rl.cs 1 _ rfl
        have s2 := HI2.out.rl.cs 2 _ rfl
        have s3 := HI2.out.rl.cs 3 _ rfl
        have s4 := HI2.out.rl.cs 4 _ rfl
        have sf := HI2.out.rl.fz
        have HS0 : Hid (wr.drew.cell? ⟨w.heap.size, 0, none⟩ = some (.slice (some ⟨b, 0, none⟩) n c) ∧ wr.drew.cell? ⟨w.heap.size, 1, none⟩ = some (.slice u m k) ∧ wr.drew.cell? ⟨w.heap.size, 2, none⟩ = some (.int .i64 df) ∧ wr.drew.cell? ⟨w.heap.size, 3, none⟩ = some (.bool false) ∧ wr.drew.cell? ⟨w.heap.size + 1, 0, none⟩ = some (.int .i64 (a : Int)) ∧ wr.drew.cell? ⟨w.heap.size + 1, 1, none⟩ = some (.int .i64 (B : Int)) ∧ wr.drew.cell? ⟨w.heap.size + 1, 2, none⟩ = some (.int .i64 (t : Int)) ∧ wr.drew.cell? ⟨w.heap.size + 1, 3, none⟩ = some (.slice la rl lc) ∧ wr.drew.cell? ⟨w.heap.size + 1, 4, none⟩ = some (.string Y)) := ⟨HI2.out.d.cs 0 _ rfl, HI2.out.d.cs 1 _ rfl, HI2.out.d.cs 2 _ rfl, HI2.out.d.cs 3 _ rfl, HI2.out.l.cs 0 _ rfl, HI2.out.l.cs 1 _ rfl, HI2.out.l.cs 2 _ rfl, HI2.out.l.cs 3 _ rfl, HI2.out.l.cs 4 _ rfl⟩
        have hS0 := HS0.out
        have HSW : Hid (wr.cell? ⟨w.heap.size, 0, none⟩ = some (.slice (some ⟨b, 0, none⟩) n c) ∧ wr.cell? ⟨w.heap.size, 1, none⟩ = some (.slice u m k) ∧ wr.cell? ⟨w.heap.size, 2, none⟩ = some (.int .i64 df) ∧ wr.cell? ⟨w.heap.size, 3, none⟩ = some (.bool false) ∧ wr.cell? ⟨w.heap.size + 1, 0, none⟩ = some (.int .i64 (a : Int)) ∧ wr.cell? ⟨w.heap.size + 1, 1, none⟩ = some (.int .i64 (B : Int)) ∧ wr.cell? ⟨w.heap.size + 1, 2, none⟩ = some (.int .i64 (t : Int)) ∧ wr.cell? ⟨w.heap.size + 1, 3, none⟩ = some (.slice la rl lc) ∧ wr.cell? ⟨w.heap.size + 1, 4, none⟩ = some (.string Y)) := HS0.out
        have HS4 : Hid (∀ (v0 v1 v2 v3 : Value), (((((wr.setCell ⟨w.heap.size + 1 + 1, 0, none⟩ v0).setCell ⟨w.heap.size + 1 + 1, 1, none⟩ v1).setCell ⟨w.heap.size + 1 + 1, 2, none⟩ v2).setCell ⟨w.heap.size + 1 + 1, 3, none⟩ v3).drew.cell? ⟨w.heap.size, 0, none⟩ = some (.slice (some ⟨b, 0, none⟩) n c) ∧ ((((wr.setCell ⟨w.heap.size + 1 + 1, 0, none⟩ v0).setCell ⟨w.heap.size + 1 + 1, 1, none⟩ v1).setCell ⟨w.heap.size + 1 + 1, 2, none⟩ v2).setCell ⟨w.heap.size + 1 + 1, 3, none⟩ v3).drew.cell? ⟨w.heap.size, 1, none⟩ = some (.slice u m k) ∧ ((((wr.setCell ⟨w.heap.size + 1 + 1, 0, none⟩ v0).setCell ⟨w.heap.size + 1 + 1, 1, none⟩ v1).setCell ⟨w.heap.size + 1 + 1, 2, none⟩ v2).setCell ⟨w.heap.size + 1 + 1, 3, none⟩ v3).drew.cell? ⟨w.heap.size, 2, none⟩ = some (.int .i64 df) ∧ ((((wr.setCell ⟨w.heap.size + 1 + 1, 0, none⟩ v0).setCell ⟨w.heap.size + 1 + 1, 1, none⟩ v1).setCell ⟨w.heap.size + 1 + 1, 2, none⟩ v2).setCell ⟨w.heap.size + 1 + 1, 3, none⟩ v3).drew.cell? ⟨w.heap.size, 3, none⟩ = some (.bool false) ∧ ((((wr.setCell ⟨w.heap.size + 1 + 1, 0, none⟩ v0).setCell ⟨w.heap.size + 1 + 1, 1, none⟩ v1).setCell ⟨w.heap.size + 1 + 1, 2, none⟩ v2).setCell ⟨w.heap.size + 1 + 1, 3, none⟩ v3).drew.cell? ⟨w.heap.size + 1, 0, none⟩ = some (.int .i64 (a : Int)) ∧ ((((wr.setCell ⟨w.heap.size + 1 + 1, 0, none⟩ v0).setCell ⟨w.heap.size + 1 + 1, 1, none⟩ v1).setCell ⟨w.heap.size + 1 + 1, 2, none⟩ v2).setCell ⟨w.heap.size + 1 + 1, 3, none⟩ v3).drew.cell? ⟨w.heap.size + 1, 1, none⟩ = some (.int .i64 (B : Int)) ∧ ((((wr.setCell ⟨w.heap.size + 1 + 1, 0, none⟩ v0).setCell ⟨w.heap.size + 1 + 1, 1, none⟩ v1).setCell ⟨w.heap.size + 1 + 1, 2, none⟩ v2).setCell ⟨w.heap.size + 1 + 1, 3, none⟩ v3).drew.cell? ⟨w.heap.size + 1, 2, none⟩ = some (.int .i64 (t : Int)) ∧ ((((wr.setCell ⟨w.heap.size + 1 + 1, 0, none⟩ v0).setCell ⟨w.heap.size + 1 + 1, 1, none⟩ v1).setCell ⟨w.heap.size + 1 + 1, 2, none⟩ v2).setCell ⟨w.heap.size + 1 + 1, 3, none⟩ v3).drew.cell? ⟨w.heap.size + 1, 3, none⟩ = some (.slice la rl lc) ∧ ((((wr.setCell ⟨w.heap.size + 1 + 1, 0, none⟩ v0).setCell ⟨w.heap.size + 1 + 1, 1, none⟩ v1).setCell ⟨w.heap.size + 1 + 1, 2, none⟩ v2).setCell ⟨w.heap.size + 1 + 1, 3, none⟩ v3).drew.cell? ⟨w.heap.size + 1, 4, none⟩ = some (.string Y))) := fun v0 v1 v2 v3 => s9_set4d wr (by omega) v0 v1 v2 v3 HSW.out
        have HS5 : Hid (∀ (v0 v1 v2 v3 x0 x1 x2 x3 x4 : Value), ((((((((((wr.setCell ⟨w.heap.size + 1 + 1, 0, none⟩ v0).setCell ⟨w.heap.size + 1 + 1, 1, none⟩ v1).setCell ⟨w.heap.size + 1 + 1, 2, none⟩ v2).setCell ⟨w.heap.size + 1 + 1, 3, none⟩ v3).setCell ⟨w.heap.size + 1 + 1 + 1, 0, none⟩ x0).setCell ⟨w.heap.size + 1 + 1 + 1, 1, none⟩ x1).setCell ⟨w.heap.size + 1 + 1 + 1, 2, none⟩ x2).setCell ⟨w.heap.size + 1 + 1 + 1, 3, none⟩ x3).setCell ⟨w.heap.size + 1 + 1 + 1, 4, none⟩ x4).drew.cell? ⟨w.heap.size, 0, none⟩ = some (.slice (some ⟨b, 0, none⟩) n c) ∧ (((((((((wr.setCell ⟨w.heap.size + 1 + 1, 0, none⟩ v0).setCell ⟨w.heap.size + 1 + 1, 1, none⟩ v1).setCell ⟨w.heap.size + 1 + 1, 2, none⟩ v2).setCell ⟨w.heap.size + 1 + 1, 3, none⟩ v3).setCell ⟨w.heap.size + 1 + 1 + 1, 0, none⟩ x0).setCell ⟨w.heap.size + 1 + 1 + 1, 1, none⟩ x1).setCell ⟨w.heap.size + 1 + 1 + 1, 2, none⟩ x2).setCell ⟨w.heap.size + 1 + 1 + 1, 3, none⟩ x3).setCell ⟨w.heap.size + 1 + 1 + 1, 4, none⟩ x4).drew.cell? ⟨w.heap.size, 1, none⟩ = some (.slice u m k) ∧ (((((((((wr.setCell ⟨w.heap.size + 1 + 1, 0, none⟩ v0).setCell ⟨w.heap.size + 1 + 1, 1, none⟩ v1).setCell ⟨w.heap.size + 1 + 1, 2, none⟩ v2).setCell ⟨w.heap.size + 1 + 1, 3, none⟩ v3).setCell ⟨w.heap.size + 1 + 1 + 1, 0, none⟩ x0).setCell ⟨w.heap.size + 1 + 1 + 1, 1, none⟩ x1).setCell ⟨w.heap.size + 1 + 1 + 1, 2, none⟩ x2).setCell ⟨w.heap.size + 1 + 1 + 1, 3, none⟩ x3).setCell ⟨w.heap.size + 1 + 1 + 1, 4, none⟩ x4).drew.cell? ⟨w.heap.size, 2, none⟩ = some (.int .i64 df) ∧ (((((((((wr.setCell ⟨w.heap.size + 1 + 1, 0, none⟩ v0).setCell ⟨w.heap.size + 1 + 1, 1, none⟩ v1).setCell ⟨w.heap.size + 1 + 1, 2, none⟩ v2).setCell ⟨w.heap.size + 1 + 1, 3, none⟩ v3).setCell ⟨w.heap.size + 1 + 1 + 1, 0, none⟩ x0).setCell ⟨w.heap.size + 1 + 1 + 1, 1, none⟩ x1).setCell ⟨w.heap.size + 1 + 1 + 1, 2, none⟩ x2).setCell ⟨w.heap.size + 1 + 1 + 1, 3, none⟩ x3).setCell ⟨w.heap.size + 1 + 1 + 1, 4, none⟩ x4).drew.cell? ⟨w.heap.size, 3, none⟩ = some (.bool false) ∧ (((((((((wr.setCell ⟨w.heap.size + 1 + 1, 0, none⟩ v0).setCell ⟨w.heap.size + 1 + 1, 1, none⟩ v1).setCell ⟨w.heap.size + 1 + 1, 2, none⟩ v2).setCell ⟨w.heap.size + 1 + 1, 3, none⟩ v3).setCell ⟨w.heap.size + 1 + 1 + 1, 0, none⟩ x0).setCell ⟨w.heap.size + 1 + 1 + 1, 1, none⟩ x1).setCell ⟨w.heap.size + 1 + 1 + 1, 2, none⟩ x2).setCell ⟨w.heap.size + 1 + 1 + 1, 3, none⟩ x3).setCell ⟨w.heap.size + 1 + 1 + 1, 4, none⟩ x4).drew.cell? ⟨w.heap.size + 1, 0, none⟩ = some (.int .i64 (a : Int)) ∧ (((((((((wr.setCell ⟨w.heap.size + 1 + 1, 0, none⟩ v0).setCell ⟨w.heap.size + 1 + 1, 1, none⟩ v1).setCell ⟨w.heap.size + 1 + 1, 2, none⟩ v2).setCell ⟨w.heap.size + 1 + 1, 3, none⟩ v3).setCell ⟨w.heap.size + 1 + 1 + 1, 0, none⟩ x0).setCell ⟨w.heap.size + 1 + 1 + 1, 1, none⟩ x1).setCell ⟨w.heap.size + 1 + 1 + 1, 2, none⟩ x2).setCell ⟨w.heap.size + 1 + 1 + 1, 3, none⟩ x3).setCell ⟨w.heap.size + 1 + 1 + 1, 4, none⟩ x4).drew.cell? ⟨w.heap.size + 1, 1, none⟩ = some (.int .i64 (B : Int)) ∧ (((((((((wr.setCell ⟨w.heap.size + 1 + 1, 0, none⟩ v0).setCell ⟨w.heap.size + 1 + 1, 1, none⟩ v1).setCell ⟨w.heap.size + 1 + 1, 2, none⟩ v2).setCell ⟨w.heap.size + 1 + 1, 3, none⟩ v3).setCell ⟨w.heap.size + 1 + 1 + 1, 0, none⟩ x0).setCell ⟨w.heap.size + 1 + 1 + 1, 1, none⟩ x1).setCell ⟨w.heap.size + 1 + 1 + 1, 2, none⟩ x2).setCell ⟨w.heap.size + 1 + 1 + 1, 3, none⟩ x3).setCell ⟨w.heap.size + 1 + 1 + 1, 4, none⟩ x4).drew.cell? ⟨w.heap.size + 1, 2, none⟩ = some (.int .i64 (t : Int)) ∧ (((((((((wr.setCell ⟨w.heap.size + 1 + 1, 0, none⟩ v0).setCell ⟨w.heap.size + 1 + 1, 1, none⟩ v1).setCell ⟨w.heap.size + 1 + 1, 2, none⟩ v2).setCell ⟨w.heap.size + 1 + 1, 3, none⟩ v3).setCell ⟨w.heap.size + 1 + 1 + 1, 0, none⟩ x0).setCell ⟨w.heap.size + 1 + 1 + 1, 1, none⟩ x1).setCell ⟨w.heap.size + 1 + 1 + 1, 2, none⟩ x2).setCell ⟨w.heap.size + 1 + 1 + 1, 3, none⟩ x3).setCell ⟨w.heap.size + 1 + 1 + 1, 4, none⟩ x4).drew.cell? ⟨w.heap.size + 1, 3, none⟩ = some (.slice la rl lc) ∧ (((((((((wr.setCell ⟨w.heap.size + 1 + 1, 0, none⟩ v0).setCell ⟨w.heap.size + 1 + 1, 1, none⟩ v1).setCell ⟨w.heap.size + 1 + 1, 2, none⟩ v2).setCell ⟨w.heap.size + 1 + 1, 3, none⟩ v3).setCell ⟨w.heap.size + 1 + 1 + 1, 0, none⟩ x0).setCell ⟨w.heap.size + 1 + 1 + 1, 1, none⟩ x1).setCell ⟨w.heap.size + 1 + 1 + 1, 2, none⟩ x2).setCell ⟨w.heap.size + 1 + 1 + 1, 3, none⟩ x3).setCell ⟨w.heap.size + 1 + 1 + 1, 4, none⟩ x4).drew.cell? ⟨w.heap.size + 1, 4, none⟩ = some (.string Y))) := fun v0 v1 v2 v3 x0 x1 x2 x3 x4 => s9_set5d _ (by omega) x0 x1 x2 x3 x4 (s9_set4 wr (by omega) v0 v1 v2 v3 HSW.out)
        obtain ⟨W, hW, hl1, hl2, hk, hk2⟩ := HI2.out.fin (.slice (some ⟨b, 0, none⟩) n c) (.slice u m k) (.int .i64 df) (.bool false)
        have HF : Hid ((((((((((wr.setCell ⟨w.heap.size + 1 + 1, 0, none⟩ (.slice (some ⟨b, 0, none⟩) n c)).setCell ⟨w.heap.size + 1 + 1, 1, none⟩ (.slice u m k)).setCell ⟨w.heap.size + 1 + 1, 2, none⟩ (.int .i64 df)).setCell ⟨w.heap.size + 1 + 1, 3, none⟩ (.bool false)).setCell ⟨w.heap.size + 1 + 1 + 1, 0, none⟩ (.int .i64 (a : Int))).setCell ⟨w.heap.size + 1 + 1 + 1, 1, none⟩ (.int .i64 (B : Int))).setCell ⟨w.heap.size + 1 + 1 + 1, 2, none⟩ (.int .i64 (t : Int))).setCell ⟨w.heap.size + 1 + 1 + 1, 3, none⟩ (.slice la rl lc)).setCell ⟨w.heap.size + 1 + 1 + 1, 4, none⟩ (.string Y)).drew = W) := hW
        have HL1 : Hid _ := hl1
        have HL2 : Hid _ := hl2
        have HKW : Hid (Kept (fun _ => False) w W) := hk
        have HKW2 : Hid _ := hk2
        clear hW hl1 hl2 hk hk2
        go_wp2_with fail
        go_region_held (fun (w' : World) => (w'.cell? ⟨w.heap.size, 0, none⟩ = some (.slice (some ⟨b, 0, none⟩) n c) ∧ w'.cell? ⟨w.heap.size, 1, none⟩ = some (.slice u m k) ∧ w'.cell? ⟨w.heap.size, 2, none⟩ = some (.int .i64 df) ∧ w'.cell? ⟨w.heap.size, 3, none⟩ = some (.bool false) ∧ w'.cell? ⟨w.heap.size + 1, 0, none⟩ = some (.int .i64 (a : Int)) ∧ w'.cell? ⟨w.heap.size + 1, 1, none⟩ = some (.int .i64 (B : Int)) ∧ w'.cell? ⟨w.heap.size + 1, 2, none⟩ = some (.int .i64 (t : Int)) ∧ w'.cell? ⟨w.heap.size + 1, 3, none⟩ = some (.slice la rl lc) ∧ w'.cell? ⟨w.heap.size + 1, 4, none⟩ = some (.string Y))) (first | (with_reducible assumption) | (with_reducible exact HS0.out) | (with_reducible exact HS4.out _ _ _ _) | (with_reducible exact HS5.out _ _ _ _ _ _ _ _ _))
          (first | fail)
        all_goals go_wp2_with fail
        all_goals rw [HF.out]
        all_goals refine bodyPost_ret (results_two rfl rfl rfl HL1.out HL2.out) rfl ?_
        all_goals exact HFULL.out HZ.out.1 HZ.out.2 _ HKW.out
      | false =>
        have hfit := full_no hF htk
        have HZ : Hid (Y.size + sizeG g ≤ 32 * (B - a)) := by show _ ≤ _; rw [HRM.out, HUS.out]; exact hfit
        obtain ⟨l, ho, hll, hlf⟩ := HI.out.2.own
        have el := hlf hF
        rw [htk] at el
        obtain ⟨vo, vm, vc2, hv, hcv⟩ := ownB_any ho
        subst hv
        obtain ⟨AL, hAL⟩ : ∃ AL, allB Y t g = AL := ⟨_, rfl⟩
        have hcv2 : (convert 80 9 (.slice vo vm vc2)).run Try.prog wr = .ok (.string AL) wr := by
          rw [← hAL]
          unfold allB
          rw [← el]
          exact hcv
        have hALs : AL.size ≤ 8192 := by
          rw [← hAL, all_size, HUS.out]
          exact Nat.le_trans hfit hrm
        have HAL : Hid (allB Y t g = AL) := hAL
        have HB2 : Hid (Bx w wr [.slice (some ⟨b, 0, none⟩) n c, .slice u m k, .int .i64 df, .bool false] [.int .i64 (a : Int), .int .i64 (B : Int), .int .i64 (t : Int), .slice la rl lc, .string Y]) := HI.out.1
        have y4 := HB2.out.l.cs 4 _ rfl
        obtain ⟨hq1, hq2, hf0b⟩ := quo32 us (Nat.le_trans husr hrm)
        obtain ⟨f0, hf0⟩ : ∃ f0, us / 32 = f0 := ⟨_, rfl⟩
        rw [hf0] at hq1 hq2 hf0b
        have HF0 : Hid (us / 32 = f0) := hf0
        have hysz : (Y.size : Int) = (us : Int) := congrArg Int.ofNat HUS.out
        obtain ⟨many, hmany⟩ : ∃ many, manyG Y.size g = many := ⟨_, rfl⟩
        have HMN : Hid (manyG Y.size g = many) := hmany
        have hmb : many ≤ 300 := by
          rw [← hmany, HUS.out]
          exact many_b us g room hfit hrm
        have HST : Hid (∃ u' k' pm pf, Bx w wr [.slice (some ⟨b, 0, none⟩) n c, .slice u' pm k', .int .i64 pf, .bool false] [.int .i64 (a : Int), .int .i64 (B : Int), .int .i64 (t : Int), .slice la rl lc, .string Y] ∧ Rd wr b c u' k' (PD d a Y t g 0) ∧ (PD d a Y t g 0).Q.length = pm ∧ (PD d a Y t g 0).fuse = pf ∧ (u' = u ∧ k' = k)) := ⟨u, k, m, df, HB2.out, HRD.out.1.step HB2.out.k, HRD.out.2.2.1, HRD.out.2.2.2.1, rfl, rfl⟩
        clear HI htk ho hll hlf el hcv hAL hf0 HFULL hmany hF hfit
        go_wp2_with fail
        clear hcv2 y4
        go_loopw [16] (fun v16 wr => ∃ (j : Nat) (u' : Option Addr) (k' pm : Nat) (pf : Int), j ≤ many ∧ v16 = .int .i64 (f0 + j : Nat) ∧ Hid (Bx w wr [.slice (some ⟨b, 0, none⟩) n c, .slice u' pm k', .int .i64 pf, .bool false] [.int .i64 (a : Int), .int .i64 (B : Int), .int .i64 (t : Int), .slice la rl lc, .string Y] ∧ Rd wr b c u' k' (PD d a Y t g j) ∧ (PD d a Y t g j).Q.length = pm ∧ (PD d a Y t g j).fuse = pf ∧ (∀ i, i < j → (PD d a Y t g i).on = true) ∧ (j = 0 → u' = u ∧ k' = k)))
          (fun vi _ => 1000 - (intOf vi).toNat)
        case atStart => obtain ⟨u', k', pm, pf, q1, q2, q3, q4, q5⟩ := HST.out; exact ⟨0, u', k', pm, pf, Nat.zero_le _, by rw [Nat.add_zero, ← HF0.out, Int.natCast_ediv]; rfl, q1, q2, q3, q4, fun i hi => absurd hi (Nat.not_lt_zero _), fun _ => q5⟩
        case round =>
          clear HST HB2
          obtain ⟨j, u', k', pm, pf, hj, rfl, HI⟩ := hrel
          by_cases hjm : j < many
          · have hjm' : j < manyG Y.size g := by rw [HMN.out]; exact hjm
            obtain ⟨Wz, CH, hWz, c1, c2, c3, c4, c5, c6, c7, c8, c9⟩ := pd_round (t := t) HRD.out.2.2.2.2.2.2.2.2.2 HRD.out.2.2.2.2.2.2.1 HRD.out.2.2.2.2.1 HRD.out.2.2.2.2.2.1 HZ.out HRD.out.2.2.2.2.2.2.2.1 HRD.out.2.2.2.2.2.2.2.2.1 j hjm' (Nat.le_trans hj hmb) HI.out.2.2.2.2.1
            rw [HUS.out, HF0.out] at hWz c1 c2 c5 c6
            rw [HAL.out] at c1 c5
            obtain ⟨ii, hii⟩ : ∃ ii, f0 + j = ii := ⟨_, rfl⟩
            rw [hii] at hWz c1 c2 c5 c6 ⊢
            have HII : Hid (f0 + j = ii) := hii
            have hiib : ii ≤ 600 := by rw [← hii]; exact Nat.le_trans (Nat.add_le_add hf0b (Nat.le_trans hj hmb)) (by decide)
            have hab3 : a ≤ 300 := Nat.le_trans (Nat.le_of_lt HRD.out.2.2.2.2.2.2.2.2.1) (Nat.le_trans HAB.out (by decide))
            obtain ⟨e1, e2, e3, e4⟩ := wraps_add a ii hab3 hiib
            obtain ⟨ai, hai⟩ : ∃ ai, a + ii = ai := ⟨_, rfl⟩
            obtain ⟨q32, hq32⟩ : ∃ q32, 32 * ii = q32 := ⟨_, rfl⟩
            have HAI : Hid (a + ii = ai ∧ 32 * ii = q32) := ⟨hai, hq32⟩
            rw [hai] at e1 e2 c2 c6 hWz
            rw [hq32] at e3 e4 c1 c5
            have hgi : (i : Int) > 0 := by
              have : g ≠ [] := fun e => by rw [e] at hjm'; simp [manyG] at hjm'
              have := List.length_pos_iff.2 this
              rw [HG.out.1] at this
              exact Int.natCast_pos.2 this
            have hcc : (q32 : Int) < (AL.size : Int) := Int.ofNat_lt.2 c1
            have HC60 : Hid (Calls Try.prog 60 #[.agg #[.slice (some ⟨b, 0, none⟩) n c, .slice u' pm k', .int .i64 pf, .bool false], .int .i64 (ai : Int)] wr fun e w' => e = .returned (.tuple #[.string Wz, .int .i64 0]) ∧ Hid (Kept (fun _ => False) wr w')) := by
              have q := ref_readD HI.out.2.1 (Nat.le_trans c8 (by decide)) c7.off ai (by rw [c9]; exact c2)
              rw [c9, HRD.out.2.1, HI.out.2.2.1, HI.out.2.2.2.1, ← hWz] at q
              exact q
            have HN : Hid (Wz.size = 32 ∧ CH.size = 32 ∧ (∀ nn, nn = min 32 (AL.size - q32) → AL.extract q32 (q32 + nn) ++ Wz.extract nn Wz.size = CH) ∧ PD d a Y t g (j + 1) = (PD d a Y t g j).write ai CH.data.toList ∧ (PD d a Y t g j).live ∧ (PD d a Y t g j).Q.length ≤ 1000000 ∧ (PD d a Y t g j).n = d.n ∧ ai < d.n) := ⟨c3, c4, c5, c6, c7, c8, c9, c2⟩
            have x0 := HI.out.1.d.cs 0 _ rfl
            have x1 := HI.out.1.d.cs 1 _ rfl
            have x2 := HI.out.1.d.cs 2 _ rfl
            have x3 := HI.out.1.d.cs 3 _ rfl
            have y0 := HI.out.1.l.cs 0 _ rfl
            clear hWz c1 c2 c3 c4 c5 c6 c7 c8 c9 hii hjm' hab3 hai hq32
            go_wp2_with fail
            refine Calls.mono HC60.out ?_; rintro e w2 ⟨rfl, HK2⟩
            have HI2 : Hid (Bx w w2 [.slice (some ⟨b, 0, none⟩) n c, .slice u' pm k', .int .i64 pf, .bool false] [.int .i64 (a : Int), .int .i64 (B : Int), .int .i64 (t : Int), .slice la rl lc, .string Y] ∧ Rd w2 b c u' k' (PD d a Y t g j) ∧ (PD d a Y t g j).Q.length = pm ∧ (PD d a Y t g j).fuse = pf ∧ (∀ i, i < j → (PD d a Y t g i).on = true) ∧ (j = 0 → u' = u ∧ k' = k)) := ⟨HI.out.1.next HK2.out, HI.out.2.1.step HK2.out, HI.out.2.2⟩
            clear HI HK2 HC60 x0 x1 x2 x3 y0
            obtain ⟨nn, hnn⟩ : ∃ nn, nn = min 32 (AL.size - q32) := ⟨_, rfl⟩
            have HNN : Hid (nn = min 32 (AL.size - q32)) := hnn
            clear hnn
            go_upto_region 23 with fail
            go_cut [19] (fun s19 wx => s19 = .int .i64 (nn : Int) ∧ w2 = wx)
            case first =>
              obtain ⟨hmn1, hmn2⟩ := min_nn (Int.ofNat_lt.1 hcc) hALs
              obtain ⟨dd, hdd⟩ : ∃ dd, AL.size - q32 = dd := ⟨_, rfl⟩
              rw [hdd] at hmn1 hmn2
              have HDD : Hid (AL.size - q32 = dd) := hdd
              clear hdd
              go_wp2_with fail
              all_goals go_meet
              all_goals exact ⟨congrArg _ (min_cast HNN.out HDD.out), rfl⟩
            obtain ⟨rfl, rfl⟩ := hcut
            rename_i hK0
            refine hK0 _ _ ?_
            clear hK0
            obtain ⟨n1, n2, n3, n4⟩ := nn_facts HNN.out (Int.ofNat_lt.1 hcc) hALs
            obtain ⟨qn, hqn⟩ : ∃ qn, q32 + nn = qn := ⟨_, rfl⟩
            rw [hqn] at n2 n3 n4
            have hW32 : Wz.size = 32 := HN.out.1
            have hchs : CH.size = 32 := HN.out.2.1
            have hCH : AL.extract q32 qn ++ Wz.extract nn 32 = CH := by rw [← hqn, ← hW32]; exact HN.out.2.2.1 nn HNN.out
            have hszz : (AL.extract q32 qn).size + (Wz.extract nn 32).size = 32 := by have hq := congrArg ByteArray.size hCH; rw [ByteArray.size_append, hchs] at hq; exact hq
            have hqle : (q32 : Int) ≤ (qn : Int) := by rw [← hqn]; exact Int.ofNat_le.2 (Nat.le_add_right _ _)
            have hqA : (qn : Int) ≤ (AL.size : Int) := Int.ofNat_le.2 n2
            have hnW : (nn : Int) ≤ 32 := Int.ofNat_le.2 n1
            have HSW : Hid (∀ W, Kept (fun _ => False) w2 W → (W.cell? ⟨w.heap.size, 0, none⟩ = some (.slice (some ⟨b, 0, none⟩) n c) ∧ W.cell? ⟨w.heap.size, 1, none⟩ = some (.slice u' pm k') ∧ W.cell? ⟨w.heap.size, 2, none⟩ = some (.int .i64 pf) ∧ W.cell? ⟨w.heap.size, 3, none⟩ = some (.bool false) ∧ W.cell? ⟨w.heap.size + 1, 0, none⟩ = some (.int .i64 (a : Int)))) := fun W q => ⟨(HI2.out.1.d.step q).cs 0 _ rfl, (HI2.out.1.d.step q).cs 1 _ rfl, (HI2.out.1.d.step q).cs 2 _ rfl, (HI2.out.1.d.step q).cs 3 _ rfl, (HI2.out.1.l.step q).cs 0 _ rfl⟩
            obtain ⟨ee, hee⟩ : ∃ ee : Int, (if (PD d a Y t g j).on then 0 else 30) = ee := ⟨_, rfl⟩
            obtain ⟨pm2, hpm2⟩ : ∃ pm2, (PD d a Y t g (j + 1)).Q.length = pm2 := ⟨_, rfl⟩
            obtain ⟨pf2, hpf2⟩ : ∃ pf2, (PD d a Y t g (j + 1)).fuse = pf2 := ⟨_, rfl⟩
            obtain ⟨po2, hpo2⟩ : ∃ po2, (PD d a Y t g (j + 1)).off = po2 := ⟨_, rfl⟩
            have HP2 : Hid ((if (PD d a Y t g j).on then (0 : Int) else 30) = ee ∧ (PD d a Y t g (j + 1)).Q.length = pm2 ∧ (PD d a Y t g (j + 1)).fuse = pf2 ∧ (PD d a Y t g (j + 1)).off = po2) := ⟨hee, hpm2, hpf2, hpo2⟩
            have HC61 : Hid (∀ W, Kept (fun _ => False) w2 W → Calls Try.prog 61 #[.agg #[.slice (some ⟨b, 0, none⟩) n c, .slice u' pm k', .int .i64 pf, .bool false], .int .i64 (ai : Int), .string CH] W fun e w'' => ∃ u2 k2, e = .returned (.tuple #[.agg #[.slice (some ⟨b, 0, none⟩) n c, .slice u2 pm2 k2, .int .i64 pf2, .bool po2], .int .i64 ee]) ∧ Hid (Rd w'' b c u2 k2 (PD d a Y t g (j + 1)) ∧ Kept (fun _ => False) W w'' ∧ Kept (fun _ => False) w2 w'') ∧ (w''.cell? ⟨w.heap.size, 0, none⟩ = some (.slice (some ⟨b, 0, none⟩) n c) ∧ w''.cell? ⟨w.heap.size, 1, none⟩ = some (.slice u' pm k') ∧ w''.cell? ⟨w.heap.size, 2, none⟩ = some (.int .i64 pf) ∧ w''.cell? ⟨w.heap.size, 3, none⟩ = some (.bool false) ∧ w''.cell? ⟨w.heap.size + 1, 0, none⟩ = some (.int .i64 (a : Int)))) := fun W q => by
              have hq := ref_writeD (HI2.out.2.1.step q) HN.out.2.2.2.2.2.1 HN.out.2.2.2.2.1 ai (by rw [HN.out.2.2.2.2.2.2.1]; exact HN.out.2.2.2.2.2.2.2) CH HN.out.2.1
              rw [← HN.out.2.2.2.1, hee, hpm2, hpf2, hpo2, HI2.out.2.2.1, HI2.out.2.2.2.1, HN.out.2.2.2.2.2.2.1, HRD.out.2.1] at hq
              exact hq.mono fun e w'' ⟨u2, k2, q1, q2, q3⟩ => ⟨u2, k2, q1, ⟨q2, q3, q.trans q3 (fun _ x => x.elim)⟩, HSW.out _ (q.trans q3 (fun _ x => x.elim))⟩
            have HS0 : Hid (w2.drew.cell? ⟨w.heap.size, 0, none⟩ = some (.slice (some ⟨b, 0, none⟩) n c) ∧ w2.drew.cell? ⟨w.heap.size, 1, none⟩ = some (.slice u' pm k') ∧ w2.drew.cell? ⟨w.heap.size, 2, none⟩ = some (.int .i64 pf) ∧ w2.drew.cell? ⟨w.heap.size, 3, none⟩ = some (.bool false) ∧ w2.drew.cell? ⟨w.heap.size + 1, 0, none⟩ = some (.int .i64 (a : Int))) := HSW.out _ (Kept.refl _ _).drew
            have HSA : Hid (∀ z, ((w2.alloc z).cell? ⟨w.heap.size, 0, none⟩ = some (.slice (some ⟨b, 0, none⟩) n c) ∧ (w2.alloc z).cell? ⟨w.heap.size, 1, none⟩ = some (.slice u' pm k') ∧ (w2.alloc z).cell? ⟨w.heap.size, 2, none⟩ = some (.int .i64 pf) ∧ (w2.alloc z).cell? ⟨w.heap.size, 3, none⟩ = some (.bool false) ∧ (w2.alloc z).cell? ⟨w.heap.size + 1, 0, none⟩ = some (.int .i64 (a : Int)))) := fun z => HSW.out _ ((Kept.refl _ _).alloc z)
            have HSB : Hid (∀ z, ((w2.alloc z).drew.cell? ⟨w.heap.size, 0, none⟩ = some (.slice (some ⟨b, 0, none⟩) n c) ∧ (w2.alloc z).drew.cell? ⟨w.heap.size, 1, none⟩ = some (.slice u' pm k') ∧ (w2.alloc z).drew.cell? ⟨w.heap.size, 2, none⟩ = some (.int .i64 pf) ∧ (w2.alloc z).drew.cell? ⟨w.heap.size, 3, none⟩ = some (.bool false) ∧ (w2.alloc z).drew.cell? ⟨w.heap.size + 1, 0, none⟩ = some (.int .i64 (a : Int)))) := fun z => HSW.out _ ((Kept.refl _ _).alloc z).drew
            have HSX : Hid (∀ (W : World) (z : Obj), (W.cell? ⟨w.heap.size, 0, none⟩ = some (.slice (some ⟨b, 0, none⟩) n c) ∧ W.cell? ⟨w.heap.size, 1, none⟩ = some (.slice u' pm k') ∧ W.cell? ⟨w.heap.size, 2, none⟩ = some (.int .i64 pf) ∧ W.cell? ⟨w.heap.size, 3, none⟩ = some (.bool false) ∧ W.cell? ⟨w.heap.size + 1, 0, none⟩ = some (.int .i64 (a : Int))) → ((W.alloc z).cell? ⟨w.heap.size, 0, none⟩ = some (.slice (some ⟨b, 0, none⟩) n c) ∧ (W.alloc z).cell? ⟨w.heap.size, 1, none⟩ = some (.slice u' pm k') ∧ (W.alloc z).cell? ⟨w.heap.size, 2, none⟩ = some (.int .i64 pf) ∧ (W.alloc z).cell? ⟨w.heap.size, 3, none⟩ = some (.bool false) ∧ (W.alloc z).cell? ⟨w.heap.size + 1, 0, none⟩ = some (.int .i64 (a : Int)))) := fun W z h => by
              have f : ∀ {a : Addr} {u : Value}, W.cell? a = some u → (W.alloc z).cell? a = some u := fun {a u} q => ((Kept.refl (fun _ => False) W).alloc z).cell q (fun x => x)
              exact ⟨f h.1, f h.2.1, f h.2.2.1, f h.2.2.2.1, f h.2.2.2.2⟩
            have HSY : Hid (∀ (W : World) (v0 v1 v2 v3 : Value), (W.cell? ⟨w.heap.size, 0, none⟩ = some (.slice (some ⟨b, 0, none⟩) n c) ∧ W.cell? ⟨w.heap.size, 1, none⟩ = some (.slice u' pm k') ∧ W.cell? ⟨w.heap.size, 2, none⟩ = some (.int .i64 pf) ∧ W.cell? ⟨w.heap.size, 3, none⟩ = some (.bool false) ∧ W.cell? ⟨w.heap.size + 1, 0, none⟩ = some (.int .i64 (a : Int))) → ((((((W).setCell ⟨w2.heap.size, 0, none⟩ v0).setCell ⟨w2.heap.size, 1, none⟩ v1).setCell ⟨w2.heap.size, 2, none⟩ v2).setCell ⟨w2.heap.size, 3, none⟩ v3).cell? ⟨w.heap.size, 0, none⟩ = some (.slice (some ⟨b, 0, none⟩) n c) ∧ (((((W).setCell ⟨w2.heap.size, 0, none⟩ v0).setCell ⟨w2.heap.size, 1, none⟩ v1).setCell ⟨w2.heap.size, 2, none⟩ v2).setCell ⟨w2.heap.size, 3, none⟩ v3).cell? ⟨w.heap.size, 1, none⟩ = some (.slice u' pm k') ∧ (((((W).setCell ⟨w2.heap.size, 0, none⟩ v0).setCell ⟨w2.heap.size, 1, none⟩ v1).setCell ⟨w2.heap.size, 2, none⟩ v2).setCell ⟨w2.heap.size, 3, none⟩ v3).cell? ⟨w.heap.size, 2, none⟩ = some (.int .i64 pf) ∧ (((((W).setCell ⟨w2.heap.size, 0, none⟩ v0).setCell ⟨w2.heap.size, 1, none⟩ v1).setCell ⟨w2.heap.size, 2, none⟩ v2).setCell ⟨w2.heap.size, 3, none⟩ v3).cell? ⟨w.heap.size, 3, none⟩ = some (.bool false) ∧ (((((W).setCell ⟨w2.heap.size, 0, none⟩ v0).setCell ⟨w2.heap.size, 1, none⟩ v1).setCell ⟨w2.heap.size, 2, none⟩ v2).setCell ⟨w2.heap.size, 3, none⟩ v3).cell? ⟨w.heap.size + 1, 0, none⟩ = some (.int .i64 (a : Int)))) := fun W v0 v1 v2 v3 h => by
              have hsz := HI2.out.1.sz
              have kk := set4_kept W w2.heap.size v0 v1 v2 v3
              have f : ∀ {k j : Nat} {u : Value}, k ≠ w2.heap.size → W.cell? ⟨k, j, none⟩ = some u → (((((W).setCell ⟨w2.heap.size, 0, none⟩ v0).setCell ⟨w2.heap.size, 1, none⟩ v1).setCell ⟨w2.heap.size, 2, none⟩ v2).setCell ⟨w2.heap.size, 3, none⟩ v3).cell? ⟨k, j, none⟩ = some u := fun {k j u} hk q => kk.cell q hk
              exact ⟨f (Nat.ne_of_lt (Nat.lt_of_lt_of_le (by omega) hsz)) h.1, f (Nat.ne_of_lt (Nat.lt_of_lt_of_le (by omega) hsz)) h.2.1, f (Nat.ne_of_lt (Nat.lt_of_lt_of_le (by omega) hsz)) h.2.2.1, f (Nat.ne_of_lt (Nat.lt_of_lt_of_le (by omega) hsz)) h.2.2.2.1, f (Nat.ne_of_lt (Nat.lt_of_lt_of_le (by omega) hsz)) h.2.2.2.2⟩
            have HOB : Hid (Other (w2.alloc (.cells #[.slice none 0 0, .slice none 0 0, .int .i64 0, .bool false] 37)) w2.heap.size) := Other.new w2 _
            have HZB : Hid (CellsF (w2.alloc (.cells #[.slice none 0 0, .slice none 0 0, .int .i64 0, .bool false] 37)) w2.heap.size [.slice none 0 0, .slice none 0 0, .int .i64 0, .bool false]) := CellsF.new w2 [.slice none 0 0, .slice none 0 0, .int .i64 0, .bool false] 37 (by simp)
            have HZD : Hid (CellsF (w2.alloc (.cells #[.slice none 0 0, .slice none 0 0, .int .i64 0, .bool false] 37)).drew w2.heap.size [.slice none 0 0, .slice none 0 0, .int .i64 0, .bool false]) := HZB.out.far rfl
            have HZE : Hid (CellsF (w2.drew.alloc (.cells #[.slice none 0 0, .slice none 0 0, .int .i64 0, .bool false] 37)) w2.heap.size [.slice none 0 0, .slice none 0 0, .int .i64 0, .bool false]) := CellsF.new w2.drew [.slice none 0 0, .slice none 0 0, .int .i64 0, .bool false] 37 (by simp)
            have hS0 := HSW.out w2 (Kept.refl _ _)
            clear hqn hee hpm2 hpf2 hpo2 n1 n2
            go_wp2_with fail
            go_cut [20, 21] (fun s20 s21 wx => ∃ x u2 k2, s20 = .pointer (some ⟨x, 0, none⟩) ∧ s21 = .int .i64 ee ∧ Hid (CellsF wx x [.slice (some ⟨b, 0, none⟩) n c, .slice u2 pm2 k2, .int .i64 pf2, .bool po2] ∧ Rd wx b c u2 k2 (PD d a Y t g (j + 1)) ∧ Kept (fun _ => False) w2 wx ∧ w2.heap.size ≤ x))
            case first =>
              go_region_held (fun (w' : World) => (w'.cell? ⟨w.heap.size, 0, none⟩ = some (.slice (some ⟨b, 0, none⟩) n c) ∧ w'.cell? ⟨w.heap.size, 1, none⟩ = some (.slice u' pm k') ∧ w'.cell? ⟨w.heap.size, 2, none⟩ = some (.int .i64 pf) ∧ w'.cell? ⟨w.heap.size, 3, none⟩ = some (.bool false) ∧ w'.cell? ⟨w.heap.size + 1, 0, none⟩ = some (.int .i64 (a : Int)))) (first | (with_reducible assumption) | (with_reducible exact HS0.out) | (with_reducible exact HSA.out _) | (with_reducible exact HSB.out _) | (with_reducible exact HSX.out _ _ (by with_reducible assumption)) | (with_reducible exact HSY.out _ _ _ _ _ (by with_reducible assumption)))
                (first | ((with_reducible refine Calls.mono (HC61.out _ (by first | exact (Kept.refl _ _).drew | exact (Kept.refl _ _).alloc _ | exact ((Kept.refl _ _).alloc _).drew)) ?_); rintro e w3 ⟨u2, k2, rfl, HM3, hS3⟩; (try (have hz : CellsF w3 w2.heap.size [.slice none 0 0, .slice none 0 0, .int .i64 0, .bool false] := (by first | exact HZB.out.step HM3.out.2.1 | exact HZD.out.step HM3.out.2.1 | exact HZE.out.step HM3.out.2.1); have hoz : Other w3 w2.heap.size := (by first | exact HOB.out.kept HM3.out.2.1 | exact Other.kept (w := (w2.alloc (.cells #[.slice none 0 0, .slice none 0 0, .int .i64 0, .bool false] 37)).drew) HOB.out HM3.out.2.1 | exact Other.kept (w := w2.drew.alloc (.cells #[.slice none 0 0, .slice none 0 0, .int .i64 0, .bool false] 37)) (Other.new w2.drew _) HM3.out.2.1); have z0 := hz.cs 0 _ rfl; have z1 := hz.cs 1 _ rfl; have z2 := hz.cs 2 _ rfl; have z3 := hz.cs 3 _ rfl; have zf := hz.fz; have HZC : Hid (CellsF w3 w2.heap.size [.slice none 0 0, .slice none 0 0, .int .i64 0, .bool false] ∧ Other w3 w2.heap.size) := ⟨hz, hoz⟩; clear hz hoz))))
              all_goals (try simp only [Exit.then])
              all_goals (try go_wp2_with fail)
              all_goals go_meet
              all_goals first
                | exact ⟨w3.heap.size, u2, k2, rfl, rfl, CellsF.new w3 [.slice (some ⟨b, 0, none⟩) n c, .slice u2 pm2 k2, .int .i64 pf2, .bool po2] 37 (by simp), HM3.out.1.step ((Kept.refl _ _).alloc _), HM3.out.2.2.trans ((Kept.refl (fun _ => False) _).alloc _) (fun _ x => x.elim), HM3.out.2.2.size⟩
                | exact ⟨w2.heap.size, u2, k2, rfl, rfl, HZC.out.1.four rfl _ _ _ _, HM3.out.1.set4 HZC.out.2 _ _ _ _, HM3.out.2.2.trans (set4_kept w3 w2.heap.size _ _ _ _) (fun i hi => .inr (Nat.le_of_eq hi.symm)), Nat.le_refl _⟩
            obtain ⟨x, u2, k2, rfl, rfl, HX⟩ := hcut
            rename_i hK0
            refine hK0 _ _ ?_
            clear hK0
            have HBc : Hid (Bx w wc [.slice (some ⟨b, 0, none⟩) n c, .slice u' pm k', .int .i64 pf, .bool false] [.int .i64 (a : Int), .int .i64 (B : Int), .int .i64 (t : Int), .slice la rl lc, .string Y]) := HI2.out.1.next HX.out.2.2.1
            have hx0 := HX.out.1.cs 0 _ rfl
            have hx1 := HX.out.1.cs 1 _ rfl
            have hx2 := HX.out.1.cs 2 _ rfl
            have hx3 := HX.out.1.cs 3 _ rfl
            clear HSW HC61 HS0 HSA HSB HSX HSY HOB HZB HZD HZE hS0 hCH hszz hchs hW32 hqle hqA hnW n3 n4 e1 e2 e3 e4
            cases hon : (PD d a Y t g j).on with
            | true =>
              have he : ee = 0 := by rw [← HP2.out.1, hon]; rfl
              have hpo : po2 = false := by rw [← HP2.out.2.2.2, HN.out.2.2.2.1]; exact (live_write HN.out.2.2.2.2.1 hon _ _).1.off
              subst he
              subst hpo
              have HNEW : Hid (Bx w ((((wc.setCell ⟨w.heap.size, 0, none⟩ (.slice (some ⟨b, 0, none⟩) n c)).setCell ⟨w.heap.size, 1, none⟩ (.slice u2 pm2 k2)).setCell ⟨w.heap.size, 2, none⟩ (.int .i64 pf2)).setCell ⟨w.heap.size, 3, none⟩ (.bool false)) [.slice (some ⟨b, 0, none⟩) n c, .slice u2 pm2 k2, .int .i64 pf2, .bool false] [.int .i64 (a : Int), .int .i64 (B : Int), .int .i64 (t : Int), .slice la rl lc, .string Y] ∧ Rd ((((wc.setCell ⟨w.heap.size, 0, none⟩ (.slice (some ⟨b, 0, none⟩) n c)).setCell ⟨w.heap.size, 1, none⟩ (.slice u2 pm2 k2)).setCell ⟨w.heap.size, 2, none⟩ (.int .i64 pf2)).setCell ⟨w.heap.size, 3, none⟩ (.bool false)) b c u2 k2 (PD d a Y t g (j + 1)) ∧ (PD d a Y t g (j + 1)).Q.length = pm2 ∧ (PD d a Y t g (j + 1)).fuse = pf2 ∧ (∀ i, i < j + 1 → (PD d a Y t g i).on = true) ∧ (j + 1 = 0 → u2 = u ∧ k2 = k)) := ⟨HBc.out.setd rfl _ _ _ _, HX.out.2.1.set4 (HBc.out.tg _ (.inl rfl)) _ _ _ _, HP2.out.2.1, HP2.out.2.2.1, fun i hi => (Nat.lt_succ_iff_lt_or_eq.1 hi).elim (HI2.out.2.2.2.2.1 i) (fun q => by rw [q]; exact hon), fun e => absurd e (Nat.succ_ne_zero _)⟩
              have hII : f0 + (j + 1) = ii + 1 := by rw [← HII.out, Nat.add_assoc]
              have HJ : Hid (f0 + (j + 1) = ii + 1) := hII
              have q0 := HBc.out.d.cs 0 _ rfl
              have q1 := HBc.out.d.cs 1 _ rfl
              have q2 := HBc.out.d.cs 2 _ rfl
              have q3 := HBc.out.d.cs 3 _ rfl
              have qf := HBc.out.d.fz
              have hjm2 : j + 1 ≤ many := hjm
              have hiL : Hid (ii ≤ 600) := hiib
              clear hII HP2 HX HBc hon HI2 HN HII HAI HNN
              go_wp2_with fail
              go_roundw
              case rel => exact ⟨j + 1, u2, k2, pm2, pf2, hjm2, by rw [HJ.out]; first | rfl | go_num, HNEW.out⟩
              case measure => simp [intOf]; omega
            | false =>
              have he : ee = 30 := by rw [← HP2.out.1, hon]; rfl
              subst he
              have HNE : Hid _ := ne_new HI2.out.1.sz HX.out.2.2.2
              have HFO2 : Hid (∀ W, Kept (fun _ => False) w W → Rd W b c u2 k2 (PD d a Y t g (j + 1)) → Q (.returned (.tuple #[.agg #[.slice (some ⟨b, 0, none⟩) n c, .slice u2 pm2 k2, .int .i64 pf2, .bool po2], .agg #[.int .i64 (a : Int), .int .i64 (B : Int), .int .i64 (t : Int), .slice la rl lc, .string Y], .int .i64 30])) W) := fun W q1 q2 => by
                have q := HOFF.out HMG.out HZ.out j (by rw [HMN.out]; exact hjm) HI2.out.2.2.2.2.1 hon W u2 k2 q1 q2
                rw [HP2.out.2.1, HP2.out.2.2.1, HP2.out.2.2.2] at q
                exact q
              clear hon HI2 HN HII HAI HNN HP2
              have r0 := HBc.out.rd.cs 0 _ rfl
              have r1 := HBc.out.rd.cs 1 _ rfl
              have r2 := HBc.out.rd.cs 2 _ rfl
              have r3 := HBc.out.rd.cs 3 _ rfl
              have rf := HBc.out.rd.fz
              have s0 := HBc.out.rl.cs 0 _ rfl
              have s1 := HBc.out.rl.cs 1 _ rfl
              have s2 := HBc.out.rl.cs 2 _ rfl
              have s3 := HBc.out.rl.cs 3 _ rfl
              have s4 := HBc.out.rl.cs 4 _ rfl
              have sf := HBc.out.rl.fz
              have HS0 : Hid (wc.drew.cell? ⟨x, 0, none⟩ = some (.slice (some ⟨b, 0, none⟩) n c) ∧ wc.drew.cell? ⟨x, 1, none⟩ = some (.slice u2 pm2 k2) ∧ wc.drew.cell? ⟨x, 2, none⟩ = some (.int .i64 pf2) ∧ wc.drew.cell? ⟨x, 3, none⟩ = some (.bool po2) ∧ wc.drew.cell? ⟨w.heap.size + 1, 0, none⟩ = some (.int .i64 (a : Int)) ∧ wc.drew.cell? ⟨w.heap.size + 1, 1, none⟩ = some (.int .i64 (B : Int)) ∧ wc.drew.cell? ⟨w.heap.size + 1, 2, none⟩ = some (.int .i64 (t : Int)) ∧ wc.drew.cell? ⟨w.heap.size + 1, 3, none⟩ = some (.slice la rl lc) ∧ wc.drew.cell? ⟨w.heap.size + 1, 4, none⟩ = some (.string Y)) := ⟨HX.out.1.cs 0 _ rfl, HX.out.1.cs 1 _ rfl, HX.out.1.cs 2 _ rfl, HX.out.1.cs 3 _ rfl, HBc.out.l.cs 0 _ rfl, HBc.out.l.cs 1 _ rfl, HBc.out.l.cs 2 _ rfl, HBc.out.l.cs 3 _ rfl, HBc.out.l.cs 4 _ rfl⟩
              have hS0 := HS0.out
              have HSW : Hid (wc.cell? ⟨x, 0, none⟩ = some (.slice (some ⟨b, 0, none⟩) n c) ∧ wc.cell? ⟨x, 1, none⟩ = some (.slice u2 pm2 k2) ∧ wc.cell? ⟨x, 2, none⟩ = some (.int .i64 pf2) ∧ wc.cell? ⟨x, 3, none⟩ = some (.bool po2) ∧ wc.cell? ⟨w.heap.size + 1, 0, none⟩ = some (.int .i64 (a : Int)) ∧ wc.cell? ⟨w.heap.size + 1, 1, none⟩ = some (.int .i64 (B : Int)) ∧ wc.cell? ⟨w.heap.size + 1, 2, none⟩ = some (.int .i64 (t : Int)) ∧ wc.cell? ⟨w.heap.size + 1, 3, none⟩ = some (.slice la rl lc) ∧ wc.cell? ⟨w.heap.size + 1, 4, none⟩ = some (.string Y)) := HS0.out
              have HS4 : Hid (∀ (v0 v1 v2 v3 : Value), (((((wc.setCell ⟨w.heap.size + 1 + 1, 0, none⟩ v0).setCell ⟨w.heap.size + 1 + 1, 1, none⟩ v1).setCell ⟨w.heap.size + 1 + 1, 2, none⟩ v2).setCell ⟨w.heap.size + 1 + 1, 3, none⟩ v3).drew.cell? ⟨x, 0, none⟩ = some (.slice (some ⟨b, 0, none⟩) n c) ∧ ((((wc.setCell ⟨w.heap.size + 1 + 1, 0, none⟩ v0).setCell ⟨w.heap.size + 1 + 1, 1, none⟩ v1).setCell ⟨w.heap.size + 1 + 1, 2, none⟩ v2).setCell ⟨w.heap.size + 1 + 1, 3, none⟩ v3).drew.cell? ⟨x, 1, none⟩ = some (.slice u2 pm2 k2) ∧ ((((wc.setCell ⟨w.heap.size + 1 + 1, 0, none⟩ v0).setCell ⟨w.heap.size + 1 + 1, 1, none⟩ v1).setCell ⟨w.heap.size + 1 + 1, 2, none⟩ v2).setCell ⟨w.heap.size + 1 + 1, 3, none⟩ v3).drew.cell? ⟨x, 2, none⟩ = some (.int .i64 pf2) ∧ ((((wc.setCell ⟨w.heap.size + 1 + 1, 0, none⟩ v0).setCell ⟨w.heap.size + 1 + 1, 1, none⟩ v1).setCell ⟨w.heap.size + 1 + 1, 2, none⟩ v2).setCell ⟨w.heap.size + 1 + 1, 3, none⟩ v3).drew.cell? ⟨x, 3, none⟩ = some (.bool po2) ∧ ((((wc.setCell ⟨w.heap.size + 1 + 1, 0, none⟩ v0).setCell ⟨w.heap.size + 1 + 1, 1, none⟩ v1).setCell ⟨w.heap.size + 1 + 1, 2, none⟩ v2).setCell ⟨w.heap.size + 1 + 1, 3, none⟩ v3).drew.cell? ⟨w.heap.size + 1, 0, none⟩ = some (.int .i64 (a : Int)) ∧ ((((wc.setCell ⟨w.heap.size + 1 + 1, 0, none⟩ v0).setCell ⟨w.heap.size + 1 + 1, 1, none⟩ v1).setCell ⟨w.heap.size + 1 + 1, 2, none⟩ v2).setCell ⟨w.heap.size + 1 + 1, 3, none⟩ v3).drew.cell? ⟨w.heap.size + 1, 1, none⟩ = some (.int .i64 (B : Int)) ∧ ((((wc.setCell ⟨w.heap.size + 1 + 1, 0, none⟩ v0).setCell ⟨w.heap.size + 1 + 1, 1, none⟩ v1).setCell ⟨w.heap.size + 1 + 1, 2, none⟩ v2).setCell ⟨w.heap.size + 1 + 1, 3, none⟩ v3).drew.cell? ⟨w.heap.size + 1, 2, none⟩ = some (.int .i64 (t : Int)) ∧ ((((wc.setCell ⟨w.heap.size + 1 + 1, 0, none⟩ v0).setCell ⟨w.heap.size + 1 + 1, 1, none⟩ v1).setCell ⟨w.heap.size + 1 + 1, 2, none⟩ v2).setCell ⟨w.heap.size + 1 + 1, 3, none⟩ v3).drew.cell? ⟨w.heap.size + 1, 3, none⟩ = some (.slice la rl lc) ∧ ((((wc.setCell ⟨w.heap.size + 1 + 1, 0, none⟩ v0).setCell ⟨w.heap.size + 1 + 1, 1, none⟩ v1).setCell ⟨w.heap.size + 1 + 1, 2, none⟩ v2).setCell ⟨w.heap.size + 1 + 1, 3, none⟩ v3).drew.cell? ⟨w.heap.size + 1, 4, none⟩ = some (.string Y))) := fun v0 v1 v2 v3 => s9_set4d wc (HNE.out.1) v0 v1 v2 v3 HSW.out
              have HS5 : Hid (∀ (v0 v1 v2 v3 x0 x1 x2 x3 x4 : Value), ((((((((((wc.setCell ⟨w.heap.size + 1 + 1, 0, none⟩ v0).setCell ⟨w.heap.size + 1 + 1, 1, none⟩ v1).setCell ⟨w.heap.size + 1 + 1, 2, none⟩ v2).setCell ⟨w.heap.size + 1 + 1, 3, none⟩ v3).setCell ⟨w.heap.size + 1 + 1 + 1, 0, none⟩ x0).setCell ⟨w.heap.size + 1 + 1 + 1, 1, none⟩ x1).setCell ⟨w.heap.size + 1 + 1 + 1, 2, none⟩ x2).setCell ⟨w.heap.size + 1 + 1 + 1, 3, none⟩ x3).setCell ⟨w.heap.size + 1 + 1 + 1, 4, none⟩ x4).drew.cell? ⟨x, 0, none⟩ = some (.slice (some ⟨b, 0, none⟩) n c) ∧ (((((((((wc.setCell ⟨w.heap.size + 1 + 1, 0, none⟩ v0).setCell ⟨w.heap.size + 1 + 1, 1, none⟩ v1).setCell ⟨w.heap.size + 1 + 1, 2, none⟩ v2).setCell ⟨w.heap.size + 1 + 1, 3, none⟩ v3).setCell ⟨w.heap.size + 1 + 1 + 1, 0, none⟩ x0).setCell ⟨w.heap.size + 1 + 1 + 1, 1, none⟩ x1).setCell ⟨w.heap.size + 1 + 1 + 1, 2, none⟩ x2).setCell ⟨w.heap.size + 1 + 1 + 1, 3, none⟩ x3).setCell ⟨w.heap.size + 1 + 1 + 1, 4, none⟩ x4).drew.cell? ⟨x, 1, none⟩ = some (.slice u2 pm2 k2) ∧ (((((((((wc.setCell ⟨w.heap.size + 1 + 1, 0, none⟩ v0).setCell ⟨w.heap.size + 1 + 1, 1, none⟩ v1).setCell ⟨w.heap.size + 1 + 1, 2, none⟩ v2).setCell ⟨w.heap.size + 1 + 1, 3, none⟩ v3).setCell ⟨w.heap.size + 1 + 1 + 1, 0, none⟩ x0).setCell ⟨w.heap.size + 1 + 1 + 1, 1, none⟩ x1).setCell ⟨w.heap.size + 1 + 1 + 1, 2, none⟩ x2).setCell ⟨w.heap.size + 1 + 1 + 1, 3, none⟩ x3).setCell ⟨w.heap.size + 1 + 1 + 1, 4, none⟩ x4).drew.cell? ⟨x, 2, none⟩ = some (.int .i64 pf2) ∧ (((((((((wc.setCell ⟨w.heap.size + 1 + 1, 0, none⟩ v0).setCell ⟨w.heap.size + 1 + 1, 1, none⟩ v1).setCell ⟨w.heap.size + 1 + 1, 2, none⟩ v2).setCell ⟨w.heap.size + 1 + 1, 3, none⟩ v3).setCell ⟨w.heap.size + 1 + 1 + 1, 0, none⟩ x0).setCell ⟨w.heap.size + 1 + 1 + 1, 1, none⟩ x1).setCell ⟨w.heap.size + 1 + 1 + 1, 2, none⟩ x2).setCell ⟨w.heap.size + 1 + 1 + 1, 3, none⟩ x3).setCell ⟨w.heap.size + 1 + 1 + 1, 4, none⟩ x4).drew.cell? ⟨x, 3, none⟩ = some (.bool po2) ∧ (((((((((wc.setCell ⟨w.heap.size + 1 + 1, 0, none⟩ v0).setCell ⟨w.heap.size + 1 + 1, 1, none⟩ v1).setCell ⟨w.heap.size + 1 + 1, 2, none⟩ v2).setCell ⟨w.heap.size + 1 + 1, 3, none⟩ v3).setCell ⟨w.heap.size + 1 + 1 + 1, 0, none⟩ x0).setCell ⟨w.heap.size + 1 + 1 + 1, 1, none⟩ x1).setCell ⟨w.heap.size + 1 + 1 + 1, 2, none⟩ x2).setCell ⟨w.heap.size + 1 + 1 + 1, 3, none⟩ x3).setCell ⟨w.heap.size + 1 + 1 + 1, 4, none⟩ x4).drew.cell? ⟨w.heap.size + 1, 0, none⟩ = some (.int .i64 (a : Int)) ∧ (((((((((wc.setCell ⟨w.heap.size + 1 + 1, 0, none⟩ v0).setCell ⟨w.heap.size + 1 + 1, 1, none⟩ v1).setCell ⟨w.heap.size + 1 + 1, 2, none⟩ v2).setCell ⟨w.heap.size + 1 + 1, 3, none⟩ v3).setCell ⟨w.heap.size + 1 + 1 + 1, 0, none⟩ x0).setCell ⟨w.heap.size + 1 + 1 + 1, 1, none⟩ x1).setCell ⟨w.heap.size + 1 + 1 + 1, 2, none⟩ x2).setCell ⟨w.heap.size + 1 + 1 + 1, 3, none⟩ x3).setCell ⟨w.heap.size + 1 + 1 + 1, 4, none⟩ x4).drew.cell? ⟨w.heap.size + 1, 1, none⟩ = some (.int .i64 (B : Int)) ∧ (((((((((wc.setCell ⟨w.heap.size + 1 + 1, 0, none⟩ v0).setCell ⟨w.heap.size + 1 + 1, 1, none⟩ v1).setCell ⟨w.heap.size + 1 + 1, 2, none⟩ v2).setCell ⟨w.heap.size + 1 + 1, 3, none⟩ v3).setCell ⟨w.heap.size + 1 + 1 + 1, 0, none⟩ x0).setCell ⟨w.heap.size + 1 + 1 + 1, 1, none⟩ x1).setCell ⟨w.heap.size + 1 + 1 + 1, 2, none⟩ x2).setCell ⟨w.heap.size + 1 + 1 + 1, 3, none⟩ x3).setCell ⟨w.heap.size + 1 + 1 + 1, 4, none⟩ x4).drew.cell? ⟨w.heap.size + 1, 2, none⟩ = some (.int .i64 (t : Int)) ∧ (((((((((wc.setCell ⟨w.heap.size + 1 + 1, 0, none⟩ v0).setCell ⟨w.heap.size + 1 + 1, 1, none⟩ v1).setCell ⟨w.heap.size + 1 + 1, 2, none⟩ v2).setCell ⟨w.heap.size + 1 + 1, 3, none⟩ v3).setCell ⟨w.heap.size + 1 + 1 + 1, 0, none⟩ x0).setCell ⟨w.heap.size + 1 + 1 + 1, 1, none⟩ x1).setCell ⟨w.heap.size + 1 + 1 + 1, 2, none⟩ x2).setCell ⟨w.heap.size + 1 + 1 + 1, 3, none⟩ x3).setCell ⟨w.heap.size + 1 + 1 + 1, 4, none⟩ x4).drew.cell? ⟨w.heap.size + 1, 3, none⟩ = some (.slice la rl lc) ∧ (((((((((wc.setCell ⟨w.heap.size + 1 + 1, 0, none⟩ v0).setCell ⟨w.heap.size + 1 + 1, 1, none⟩ v1).setCell ⟨w.heap.size + 1 + 1, 2, none⟩ v2).setCell ⟨w.heap.size + 1 + 1, 3, none⟩ v3).setCell ⟨w.heap.size + 1 + 1 + 1, 0, none⟩ x0).setCell ⟨w.heap.size + 1 + 1 + 1, 1, none⟩ x1).setCell ⟨w.heap.size + 1 + 1 + 1, 2, none⟩ x2).setCell ⟨w.heap.size + 1 + 1 + 1, 3, none⟩ x3).setCell ⟨w.heap.size + 1 + 1 + 1, 4, none⟩ x4).drew.cell? ⟨w.heap.size + 1, 4, none⟩ = some (.string Y))) := fun v0 v1 v2 v3 x0 x1 x2 x3 x4 => s9_set5d _ (HNE.out.2) x0 x1 x2 x3 x4 (s9_set4 wc (HNE.out.1) v0 v1 v2 v3 HSW.out)
              obtain ⟨W, hW, hl1, hl2, hk, hk2⟩ := HBc.out.fin (.slice (some ⟨b, 0, none⟩) n c) (.slice u2 pm2 k2) (.int .i64 pf2) (.bool po2)
              have HF : Hid ((((((((((wc.setCell ⟨w.heap.size + 1 + 1, 0, none⟩ (.slice (some ⟨b, 0, none⟩) n c)).setCell ⟨w.heap.size + 1 + 1, 1, none⟩ (.slice u2 pm2 k2)).setCell ⟨w.heap.size + 1 + 1, 2, none⟩ (.int .i64 pf2)).setCell ⟨w.heap.size + 1 + 1, 3, none⟩ (.bool po2)).setCell ⟨w.heap.size + 1 + 1 + 1, 0, none⟩ (.int .i64 (a : Int))).setCell ⟨w.heap.size + 1 + 1 + 1, 1, none⟩ (.int .i64 (B : Int))).setCell ⟨w.heap.size + 1 + 1 + 1, 2, none⟩ (.int .i64 (t : Int))).setCell ⟨w.heap.size + 1 + 1 + 1, 3, none⟩ (.slice la rl lc)).setCell ⟨w.heap.size + 1 + 1 + 1, 4, none⟩ (.string Y)).drew = W) := hW
              have HL1 : Hid _ := hl1
              have HL2 : Hid _ := hl2
              have HKW : Hid (Kept (fun _ => False) w W) := hk
              have HKW2 : Hid _ := hk2
              clear hW hl1 hl2 hk hk2
              go_wp2_with fail
              go_region_held (fun (w' : World) => (w'.cell? ⟨x, 0, none⟩ = some (.slice (some ⟨b, 0, none⟩) n c) ∧ w'.cell? ⟨x, 1, none⟩ = some (.slice u2 pm2 k2) ∧ w'.cell? ⟨x, 2, none⟩ = some (.int .i64 pf2) ∧ w'.cell? ⟨x, 3, none⟩ = some (.bool po2) ∧ w'.cell? ⟨w.heap.size + 1, 0, none⟩ = some (.int .i64 (a : Int)) ∧ w'.cell? ⟨w.heap.size + 1, 1, none⟩ = some (.int .i64 (B : Int)) ∧ w'.cell? ⟨w.heap.size + 1, 2, none⟩ = some (.int .i64 (t : Int)) ∧ w'.cell? ⟨w.heap.size + 1, 3, none⟩ = some (.slice la rl lc) ∧ w'.cell? ⟨w.heap.size + 1, 4, none⟩ = some (.string Y))) (first | (with_reducible assumption) | (with_reducible exact HS0.out) | (with_reducible exact HS4.out _ _ _ _) | (with_reducible exact HS5.out _ _ _ _ _ _ _ _ _))
                (first | fail)
              all_goals go_wp2_with fail
              all_goals rw [HF.out]
              all_goals refine bodyPost_ret (results_two rfl rfl rfl HL1.out HL2.out) rfl ?_
              all_goals exact HFO2.out _ HKW.out (HX.out.2.1.fin HBc.out HKW2.out)
          · have hjn : j = many := Nat.le_antisymm hj (Nat.le_of_not_lt hjm)
            obtain ⟨v5, w5, a6, c6, w6, ra5, ra6, ho6, hk6, hnw⟩ := add_lists (R := R) (g := g) (own_kept HRR.out.1 HI.out.1.k) HRR.out.2.1 HRR.out.2.2.2 hR2 (HG.out.2.1.kept HI.out.1.k (fun _ _ _ _ q => q)) HRR.out.2.2.1 (by rw [HG.out.1]; exact hgl)
            obtain ⟨L7, hL7⟩ : ∃ L7, (R ++ g).length = L7 := ⟨_, rfl⟩
            rw [HG.out.1, hL7] at ra6
            have hB7 := (HI.out.1.next hk6).setl (.slice a6 L7 c6) (.string AL)
            have HB7 : Hid _ := hB7.1
            have HR7 : Hid (Rd ((w6.setCell ⟨w.heap.size + 1, 3, none⟩ (.slice a6 L7 c6)).setCell ⟨w.heap.size + 1, 4, none⟩ (.string AL)) b c u' k' (PD d a Y t g j) ∧ ((w6.setCell ⟨w.heap.size + 1, 3, none⟩ (.slice a6 L7 c6)).setCell ⟨w.heap.size + 1, 4, none⟩ (.string AL)).ownsRow 0 9 1 (.slice a6 L7 c6) L7 (sv (R ++ g))) := by
              have hO := (HI.out.1.next hk6).tg (w.heap.size + 1) (.inr (.inl rfl))
              have hr := HI.out.2.1.step hk6
              rw [hL7] at ho6
              exact ⟨⟨own_other hr.sure (.inl rfl) hB7.2 (fun i hi => by rw [hi]; exact hO), own_other hr.wait (.inr rfl) hB7.2 (fun i hi => by rw [hi]; exact hO)⟩, own_other ho6 (.inl rfl) hB7.2 (fun i hi => by rw [hi]; exact hO)⟩
            obtain ⟨W7, hW7⟩ : ∃ W7, (w6.setCell ⟨w.heap.size + 1, 3, none⟩ (.slice a6 L7 c6)).setCell ⟨w.heap.size + 1, 4, none⟩ (.string AL) = W7 := ⟨_, rfl⟩
            have HW7 : Hid ((w6.setCell ⟨w.heap.size + 1, 3, none⟩ (.slice a6 L7 c6)).setCell ⟨w.heap.size + 1, 4, none⟩ (.string AL) = W7) := hW7
            rw [hW7] at HB7 HR7
            have RA5 : Hid ((Builtin.append_ #[26, 26] 26 #[.slice none 0 0, .slice la rl lc]).run Try.prog wr = .ok v5 w5) := ra5
            have RA6 : Hid ((Builtin.append_ #[26, 26] 26 #[v5, .slice ga i gc]).run Try.prog w5 = .ok (.slice a6 L7 c6) w6) := ra6
            have HFIN : Hid (∀ W, Kept (fun _ => False) w W → Rd W b c u' k' (PD d a Y t g j) → W.ownsRow 0 9 1 (.slice a6 L7 c6) L7 (sv (R ++ g)) → Q (.returned (.tuple #[.agg #[.slice (some ⟨b, 0, none⟩) n c, .slice u' pm k', .int .i64 pf, .bool false], .agg #[.int .i64 (a : Int), .int .i64 (B : Int), .int .i64 (t : Int), .slice a6 L7 c6, .string AL], .int .i64 0])) W) := fun W q1 q2 q3 => by
              have hmj : manyG Y.size g = j := by rw [HMN.out, hjn]
              have q := HOK.out HMG.out HZ.out (fun i hi => HI.out.2.2.2.2.1 i (by rw [hmj] at hi; exact hi)) W u' k' a6 c6 q1 (by rw [hmj]; exact q2) (by rw [hL7]; exact q3) (fun i hi => Nat.le_trans HI.out.1.k.size (hnw i hi)) (fun e => HI.out.2.2.2.2.2 (by rw [hmj] at e; exact e))
              rw [hmj, HI.out.2.2.1, HI.out.2.2.2.1, hL7, HAL.out] at q
              exact q
            have l3' := HI.out.1.l.cs 3 _ rfl
            have m3 := (HI.out.1.next hk6).l.cs 3 _ rfl
            have m4 := (HI.out.1.next hk6).l.cs 4 _ rfl
            have mf := (HI.out.1.next hk6).l.fz
            have hend : (¬ (i : Int) > 0) ∨ ((i : Int) > 0 ∧ ¬ 32 * (f0 + j) < AL.size) := by
              by_cases hi0 : i = 0
              · left; rw [hi0]; decide
              · right
                refine ⟨Int.natCast_pos.2 (Nat.pos_of_ne_zero hi0), ?_⟩
                have hne : g ≠ [] := fun e => hi0 (by rw [← HG.out.1, e]; rfl)
                have q := pd_end (Y := Y) (t := t) hne
                rw [HMN.out, HUS.out, HF0.out, HAL.out, ← hjn] at q
                exact q
            obtain ⟨ii, hii⟩ : ∃ ii, f0 + j = ii := ⟨_, rfl⟩
            have hiib : ii ≤ 600 := by rw [← hii]; exact Nat.le_trans (Nat.add_le_add hf0b (Nat.le_trans hj hmb)) (by decide)
            obtain ⟨_, _, e3, e4⟩ := wraps_add 0 ii (by decide) hiib
            rw [hii] at hend ⊢
            obtain ⟨q32, hq32⟩ : ∃ q32, 32 * ii = q32 := ⟨_, rfl⟩
            rw [hq32] at e3 e4 hend
            clear ra5 ra6 ho6 hk6 hnw hB7 hW7 hL7 hii hq32 HI HOK HOFF HMG HZ hjn hjm hj
            rcases hend with hg0 | ⟨hg1, hg2⟩
            · go_wp2_with (first | ((with_reducible apply st_append (x := .tmp 137)); (case ho => rfl); (case hgd => rfl); (case hr => exact RA5.out)) | ((with_reducible apply st_append (x := .tmp 141)); (case ho => rfl); (case hgd => rfl); (case hr => exact RA6.out)))
              rw [HW7.out]
              clear HW7 RA5 RA6 l3' m3 m4 mf
              have r0 := HB7.out.rd.cs 0 _ rfl
              have r1 := HB7.out.rd.cs 1 _ rfl
              have r2 := HB7.out.rd.cs 2 _ rfl
              have r3 := HB7.out.rd.cs 3 _ rfl
              have rf := HB7.out.rd.fz
              have s0 := HB7.out.rl.cs 0 _ rfl
              have s1 := HB7.out.rl.cs 1 _ rfl
              have s2 := HB7.out.rl.cs 2 _ rfl
              have s3 := HB7.out.rl.cs 3 _ rfl
              have s4 := HB7.out.rl.cs 4 _ rfl
              have sf := HB7.out.rl.fz
              have HS0 : Hid (W7.drew.cell? ⟨w.heap.size, 0, none⟩ = some (.slice (some ⟨b, 0, none⟩) n c) ∧ W7.drew.cell? ⟨w.heap.size, 1, none⟩ = some (.slice u' pm k') ∧ W7.drew.cell? ⟨w.heap.size, 2, none⟩ = some (.int .i64 pf) ∧ W7.drew.cell? ⟨w.heap.size, 3, none⟩ = some (.bool false) ∧ W7.drew.cell? ⟨w.heap.size + 1, 0, none⟩ = some (.int .i64 (a : Int)) ∧ W7.drew.cell? ⟨w.heap.size + 1, 1, none⟩ = some (.int .i64 (B : Int)) ∧ W7.drew.cell? ⟨w.heap.size + 1, 2, none⟩ = some (.int .i64 (t : Int)) ∧ W7.drew.cell? ⟨w.heap.size + 1, 3, none⟩ = some (.slice a6 L7 c6) ∧ W7.drew.cell? ⟨w.heap.size + 1, 4, none⟩ = some (.string AL)) := ⟨HB7.out.d.cs 0 _ rfl, HB7.out.d.cs 1 _ rfl, HB7.out.d.cs 2 _ rfl, HB7.out.d.cs 3 _ rfl, HB7.out.l.cs 0 _ rfl, HB7.out.l.cs 1 _ rfl, HB7.out.l.cs 2 _ rfl, HB7.out.l.cs 3 _ rfl, HB7.out.l.cs 4 _ rfl⟩
              have hS0 := HS0.out
              have HSW : Hid (W7.cell? ⟨w.heap.size, 0, none⟩ = some (.slice (some ⟨b, 0, none⟩) n c) ∧ W7.cell? ⟨w.heap.size, 1, none⟩ = some (.slice u' pm k') ∧ W7.cell? ⟨w.heap.size, 2, none⟩ = some (.int .i64 pf) ∧ W7.cell? ⟨w.heap.size, 3, none⟩ = some (.bool false) ∧ W7.cell? ⟨w.heap.size + 1, 0, none⟩ = some (.int .i64 (a : Int)) ∧ W7.cell? ⟨w.heap.size + 1, 1, none⟩ = some (.int .i64 (B : Int)) ∧ W7.cell? ⟨w.heap.size + 1, 2, none⟩ = some (.int .i64 (t : Int)) ∧ W7.cell? ⟨w.heap.size + 1, 3, none⟩ = some (.slice a6 L7 c6) ∧ W7.cell? ⟨w.heap.size + 1, 4, none⟩ = some (.string AL)) := HS0.out
              have HS4 : Hid (∀ (v0 v1 v2 v3 : Value), (((((W7.setCell ⟨w.heap.size + 1 + 1, 0, none⟩ v0).setCell ⟨w.heap.size + 1 + 1, 1, none⟩ v1).setCell ⟨w.heap.size + 1 + 1, 2, none⟩ v2).setCell ⟨w.heap.size + 1 + 1, 3, none⟩ v3).drew.cell? ⟨w.heap.size, 0, none⟩ = some (.slice (some ⟨b, 0, none⟩) n c) ∧ ((((W7.setCell ⟨w.heap.size + 1 + 1, 0, none⟩ v0).setCell ⟨w.heap.size + 1 + 1, 1, none⟩ v1).setCell ⟨w.heap.size + 1 + 1, 2, none⟩ v2).setCell ⟨w.heap.size + 1 + 1, 3, none⟩ v3).drew.cell? ⟨w.heap.size, 1, none⟩ = some (.slice u' pm k') ∧ ((((W7.setCell ⟨w.heap.size + 1 + 1, 0, none⟩ v0).setCell ⟨w.heap.size + 1 + 1, 1, none⟩ v1).setCell ⟨w.heap.size + 1 + 1, 2, none⟩ v2).setCell ⟨w.heap.size + 1 + 1, 3, none⟩ v3).drew.cell? ⟨w.heap.size, 2, none⟩ = some (.int .i64 pf) ∧ ((((W7.setCell ⟨w.heap.size + 1 + 1, 0, none⟩ v0).setCell ⟨w.heap.size + 1 + 1, 1, none⟩ v1).setCell ⟨w.heap.size + 1 + 1, 2, none⟩ v2).setCell ⟨w.heap.size + 1 + 1, 3, none⟩ v3).drew.cell? ⟨w.heap.size, 3, none⟩ = some (.bool false) ∧ ((((W7.setCell ⟨w.heap.size + 1 + 1, 0, none⟩ v0).setCell ⟨w.heap.size + 1 + 1, 1, none⟩ v1).setCell ⟨w.heap.size + 1 + 1, 2, none⟩ v2).setCell ⟨w.heap.size + 1 + 1, 3, none⟩ v3).drew.cell? ⟨w.heap.size + 1, 0, none⟩ = some (.int .i64 (a : Int)) ∧ ((((W7.setCell ⟨w.heap.size + 1 + 1, 0, none⟩ v0).setCell ⟨w.heap.size + 1 + 1, 1, none⟩ v1).setCell ⟨w.heap.size + 1 + 1, 2, none⟩ v2).setCell ⟨w.heap.size + 1 + 1, 3, none⟩ v3).drew.cell? ⟨w.heap.size + 1, 1, none⟩ = some (.int .i64 (B : Int)) ∧ ((((W7.setCell ⟨w.heap.size + 1 + 1, 0, none⟩ v0).setCell ⟨w.heap.size + 1 + 1, 1, none⟩ v1).setCell ⟨w.heap.size + 1 + 1, 2, none⟩ v2).setCell ⟨w.heap.size + 1 + 1, 3, none⟩ v3).drew.cell? ⟨w.heap.size + 1, 2, none⟩ = some (.int .i64 (t : Int)) ∧ ((((W7.setCell ⟨w.heap.size + 1 + 1, 0, none⟩ v0).setCell ⟨w.heap.size + 1 + 1, 1, none⟩ v1).setCell ⟨w.heap.size + 1 + 1, 2, none⟩ v2).setCell ⟨w.heap.size + 1 + 1, 3, none⟩ v3).drew.cell? ⟨w.heap.size + 1, 3, none⟩ = some (.slice a6 L7 c6) ∧ ((((W7.setCell ⟨w.heap.size + 1 + 1, 0, none⟩ v0).setCell ⟨w.heap.size + 1 + 1, 1, none⟩ v1).setCell ⟨w.heap.size + 1 + 1, 2, none⟩ v2).setCell ⟨w.heap.size + 1 + 1, 3, none⟩ v3).drew.cell? ⟨w.heap.size + 1, 4, none⟩ = some (.string AL))) := fun v0 v1 v2 v3 => s9_set4d W7 (by omega) v0 v1 v2 v3 HSW.out
              have HS5 : Hid (∀ (v0 v1 v2 v3 x0 x1 x2 x3 x4 : Value), ((((((((((W7.setCell ⟨w.heap.size + 1 + 1, 0, none⟩ v0).setCell ⟨w.heap.size + 1 + 1, 1, none⟩ v1).setCell ⟨w.heap.size + 1 + 1, 2, none⟩ v2).setCell ⟨w.heap.size + 1 + 1, 3, none⟩ v3).setCell ⟨w.heap.size + 1 + 1 + 1, 0, none⟩ x0).setCell ⟨w.heap.size + 1 + 1 + 1, 1, none⟩ x1).setCell ⟨w.heap.size + 1 + 1 + 1, 2, none⟩ x2).setCell ⟨w.heap.size + 1 + 1 + 1, 3, none⟩ x3).setCell ⟨w.heap.size + 1 + 1 + 1, 4, none⟩ x4).drew.cell? ⟨w.heap.size, 0, none⟩ = some (.slice (some ⟨b, 0, none⟩) n c) ∧ (((((((((W7.setCell ⟨w.heap.size + 1 + 1, 0, none⟩ v0).setCell ⟨w.heap.size + 1 + 1, 1, none⟩ v1).setCell ⟨w.heap.size + 1 + 1, 2, none⟩ v2).setCell ⟨w.heap.size + 1 + 1, 3, none⟩ v3).setCell ⟨w.heap.size + 1 + 1 + 1, 0, none⟩ x0).setCell ⟨w.heap.size + 1 + 1 + 1, 1, none⟩ x1).setCell ⟨w.heap.size + 1 + 1 + 1, 2, none⟩ x2).setCell ⟨w.heap.size + 1 + 1 + 1, 3, none⟩ x3).setCell ⟨w.heap.size + 1 + 1 + 1, 4, none⟩ x4).drew.cell? ⟨w.heap.size, 1, none⟩ = some (.slice u' pm k') ∧ (((((((((W7.setCell ⟨w.heap.size + 1 + 1, 0, none⟩ v0).setCell ⟨w.heap.size + 1 + 1, 1, none⟩ v1).setCell ⟨w.heap.size + 1 + 1, 2, none⟩ v2).setCell ⟨w.heap.size + 1 + 1, 3, none⟩ v3).setCell ⟨w.heap.size + 1 + 1 + 1, 0, none⟩ x0).setCell ⟨w.heap.size + 1 + 1 + 1, 1, none⟩ x1).setCell ⟨w.heap.size + 1 + 1 + 1, 2, none⟩ x2).setCell ⟨w.heap.size + 1 + 1 + 1, 3, none⟩ x3).setCell ⟨w.heap.size + 1 + 1 + 1, 4, none⟩ x4).drew.cell? ⟨w.heap.size, 2, none⟩ = some (.int .i64 pf) ∧ (((((((((W7.setCell ⟨w.heap.size + 1 + 1, 0, none⟩ v0).setCell ⟨w.heap.size + 1 + 1, 1, none⟩ v1).setCell ⟨w.heap.size + 1 + 1, 2, none⟩ v2).setCell ⟨w.heap.size + 1 + 1, 3, none⟩ v3).setCell ⟨w.heap.size + 1 + 1 + 1, 0, none⟩ x0).setCell ⟨w.heap.size + 1 + 1 + 1, 1, none⟩ x1).setCell ⟨w.heap.size + 1 + 1 + 1, 2, none⟩ x2).setCell ⟨w.heap.size + 1 + 1 + 1, 3, none⟩ x3).setCell ⟨w.heap.size + 1 + 1 + 1, 4, none⟩ x4).drew.cell? ⟨w.heap.size, 3, none⟩ = some (.bool false) ∧ (((((((((W7.setCell ⟨w.heap.size + 1 + 1, 0, none⟩ v0).setCell ⟨w.heap.size + 1 + 1, 1, none⟩ v1).setCell ⟨w.heap.size + 1 + 1, 2, none⟩ v2).setCell ⟨w.heap.size + 1 + 1, 3, none⟩ v3).setCell ⟨w.heap.size + 1 + 1 + 1, 0, none⟩ x0).setCell ⟨w.heap.size + 1 + 1 + 1, 1, none⟩ x1).setCell ⟨w.heap.size + 1 + 1 + 1, 2, none⟩ x2).setCell ⟨w.heap.size + 1 + 1 + 1, 3, none⟩ x3).setCell ⟨w.heap.size + 1 + 1 + 1, 4, none⟩ x4).drew.cell? ⟨w.heap.size + 1, 0, none⟩ = some (.int .i64 (a : Int)) ∧ (((((((((W7.setCell ⟨w.heap.size + 1 + 1, 0, none⟩ v0).setCell ⟨w.heap.size + 1 + 1, 1, none⟩ v1).setCell ⟨w.heap.size + 1 + 1, 2, none⟩ v2).setCell ⟨w.heap.size + 1 + 1, 3, none⟩ v3).setCell ⟨w.heap.size + 1 + 1 + 1, 0, none⟩ x0).setCell ⟨w.heap.size + 1 + 1 + 1, 1, none⟩ x1).setCell ⟨w.heap.size + 1 + 1 + 1, 2, none⟩ x2).setCell ⟨w.heap.size + 1 + 1 + 1, 3, none⟩ x3).setCell ⟨w.heap.size + 1 + 1 + 1, 4, none⟩ x4).drew.cell? ⟨w.heap.size + 1, 1, none⟩ = some (.int .i64 (B : Int)) ∧ (((((((((W7.setCell ⟨w.heap.size + 1 + 1, 0, none⟩ v0).setCell ⟨w.heap.size + 1 + 1, 1, none⟩ v1).setCell ⟨w.heap.size + 1 + 1, 2, none⟩ v2).setCell ⟨w.heap.size + 1 + 1, 3, none⟩ v3).setCell ⟨w.heap.size + 1 + 1 + 1, 0, none⟩ x0).setCell ⟨w.heap.size + 1 + 1 + 1, 1, none⟩ x1).setCell ⟨w.heap.size + 1 + 1 + 1, 2, none⟩ x2).setCell ⟨w.heap.size + 1 + 1 + 1, 3, none⟩ x3).setCell ⟨w.heap.size + 1 + 1 + 1, 4, none⟩ x4).drew.cell? ⟨w.heap.size + 1, 2, none⟩ = some (.int .i64 (t : Int)) ∧ (((((((((W7.setCell ⟨w.heap.size + 1 + 1, 0, none⟩ v0).setCell ⟨w.heap.size + 1 + 1, 1, none⟩ v1).setCell ⟨w.heap.size + 1 + 1, 2, none⟩ v2).setCell ⟨w.heap.size + 1 + 1, 3, none⟩ v3).setCell ⟨w.heap.size + 1 + 1 + 1, 0, none⟩ x0).setCell ⟨w.heap.size + 1 + 1 + 1, 1, none⟩ x1).setCell ⟨w.heap.size + 1 + 1 + 1, 2, none⟩ x2).setCell ⟨w.heap.size + 1 + 1 + 1, 3, none⟩ x3).setCell ⟨w.heap.size + 1 + 1 + 1, 4, none⟩ x4).drew.cell? ⟨w.heap.size + 1, 3, none⟩ = some (.slice a6 L7 c6) ∧ (((((((((W7.setCell ⟨w.heap.size + 1 + 1, 0, none⟩ v0).setCell ⟨w.heap.size + 1 + 1, 1, none⟩ v1).setCell ⟨w.heap.size + 1 + 1, 2, none⟩ v2).setCell ⟨w.heap.size + 1 + 1, 3, none⟩ v3).setCell ⟨w.heap.size + 1 + 1 + 1, 0, none⟩ x0).setCell ⟨w.heap.size + 1 + 1 + 1, 1, none⟩ x1).setCell ⟨w.heap.size + 1 + 1 + 1, 2, none⟩ x2).setCell ⟨w.heap.size + 1 + 1 + 1, 3, none⟩ x3).setCell ⟨w.heap.size + 1 + 1 + 1, 4, none⟩ x4).drew.cell? ⟨w.heap.size + 1, 4, none⟩ = some (.string AL))) := fun v0 v1 v2 v3 x0 x1 x2 x3 x4 => s9_set5d _ (by omega) x0 x1 x2 x3 x4 (s9_set4 W7 (by omega) v0 v1 v2 v3 HSW.out)
              obtain ⟨W, hW, hl1, hl2, hk, hk2⟩ := HB7.out.fin (.slice (some ⟨b, 0, none⟩) n c) (.slice u' pm k') (.int .i64 pf) (.bool false)
              have HF : Hid ((((((((((W7.setCell ⟨w.heap.size + 1 + 1, 0, none⟩ (.slice (some ⟨b, 0, none⟩) n c)).setCell ⟨w.heap.size + 1 + 1, 1, none⟩ (.slice u' pm k')).setCell ⟨w.heap.size + 1 + 1, 2, none⟩ (.int .i64 pf)).setCell ⟨w.heap.size + 1 + 1, 3, none⟩ (.bool false)).setCell ⟨w.heap.size + 1 + 1 + 1, 0, none⟩ (.int .i64 (a : Int))).setCell ⟨w.heap.size + 1 + 1 + 1, 1, none⟩ (.int .i64 (B : Int))).setCell ⟨w.heap.size + 1 + 1 + 1, 2, none⟩ (.int .i64 (t : Int))).setCell ⟨w.heap.size + 1 + 1 + 1, 3, none⟩ (.slice a6 L7 c6)).setCell ⟨w.heap.size + 1 + 1 + 1, 4, none⟩ (.string AL)).drew = W) := hW
              have HL1 : Hid _ := hl1
              have HL2 : Hid _ := hl2
              have HKW : Hid (Kept (fun _ => False) w W) := hk
              have HKW2 : Hid _ := hk2
              clear hW hl1 hl2 hk hk2
              go_wp2_with fail
              go_region_held (fun (w' : World) => (w'.cell? ⟨w.heap.size, 0, none⟩ = some (.slice (some ⟨b, 0, none⟩) n c) ∧ w'.cell? ⟨w.heap.size, 1, none⟩ = some (.slice u' pm k') ∧ w'.cell? ⟨w.heap.size, 2, none⟩ = some (.int .i64 pf) ∧ w'.cell? ⟨w.heap.size, 3, none⟩ = some (.bool false) ∧ w'.cell? ⟨w.heap.size + 1, 0, none⟩ = some (.int .i64 (a : Int)) ∧ w'.cell? ⟨w.heap.size + 1, 1, none⟩ = some (.int .i64 (B : Int)) ∧ w'.cell? ⟨w.heap.size + 1, 2, none⟩ = some (.int .i64 (t : Int)) ∧ w'.cell? ⟨w.heap.size + 1, 3, none⟩ = some (.slice a6 L7 c6) ∧ w'.cell? ⟨w.heap.size + 1, 4, none⟩ = some (.string AL))) (first | (with_reducible assumption) | (with_reducible exact HS0.out) | (with_reducible exact HS4.out _ _ _ _) | (with_reducible exact HS5.out _ _ _ _ _ _ _ _ _))
                (first | fail)
              all_goals go_wp2_with fail
              all_goals rw [HF.out]
              all_goals refine bodyPost_ret (results_two rfl rfl rfl HL1.out HL2.out) rfl ?_
              all_goals exact HFIN.out _ HKW.out (HR7.out.1.fin HB7.out HKW2.out) (own_other HR7.out.2 (.inl rfl) HKW2.out (fun i hi => HB7.out.tg i (by omega)))
            · have hcc : ¬ (q32 : Int) < (AL.size : Int) := fun q => hg2 (Int.ofNat_lt.1 q)
              clear hg2
              go_wp2_with (first | ((with_reducible apply st_append (x := .tmp 137)); (case ho => rfl); (case hgd => rfl); (case hr => exact RA5.out)) | ((with_reducible apply st_append (x := .tmp 141)); (case ho => rfl); (case hgd => rfl); (case hr => exact RA6.out)))
              rw [HW7.out]
              clear HW7 RA5 RA6 l3' m3 m4 mf
              have r0 := HB7.out.rd.cs 0 _ rfl
              have r1 := HB7.out.rd.cs 1 _ rfl
              have r2 := HB7.out.rd.cs 2 _ rfl
              have r3 := HB7.out.rd.cs 3 _ rfl
              have rf := HB7.out.rd.fz
              have s0 := HB7.out.rl.cs 0 _ rfl
              have s1 := HB7.out.rl.cs 1 _ rfl
              have s2 := HB7.out.rl.cs 2 _ rfl
              have s3 := HB7.out.rl.cs 3 _ rfl
              have s4 := HB7.out.rl.cs 4 _ rfl
              have sf := HB7.out.rl.fz
              have HS0 : Hid (W7.drew.cell? ⟨w.heap.size, 0, none⟩ = some (.slice (some ⟨b, 0, none⟩) n c) ∧ W7.drew.cell? ⟨w.heap.size, 1, none⟩ = some (.slice u' pm k') ∧ W7.drew.cell? ⟨w.heap.size, 2, none⟩ = some (.int .i64 pf) ∧ W7.drew.cell? ⟨w.heap.size, 3, none⟩ = some (.bool false) ∧ W7.drew.cell? ⟨w.heap.size + 1, 0, none⟩ = some (.int .i64 (a : Int)) ∧ W7.drew.cell? ⟨w.heap.size + 1, 1, none⟩ = some (.int .i64 (B : Int)) ∧ W7.drew.cell? ⟨w.heap.size + 1, 2, none⟩ = some (.int .i64 (t : Int)) ∧ W7.drew.cell? ⟨w.heap.size + 1, 3, none⟩ = some (.slice a6 L7 c6) ∧ W7.drew.cell? ⟨w.heap.size + 1, 4, none⟩ = some (.string AL)) := ⟨HB7.out.d.cs 0 _ rfl, HB7.out.d.cs 1 _ rfl, HB7.out.d.cs 2 _ rfl, HB7.out.d.cs 3 _ rfl, HB7.out.l.cs 0 _ rfl, HB7.out.l.cs 1 _ rfl, HB7.out.l.cs 2 _ rfl, HB7.out.l.cs 3 _ rfl, HB7.out.l.cs 4 _ rfl⟩
              have hS0 := HS0.out
              have HSW : Hid (W7.cell? ⟨w.heap.size, 0, none⟩ = some (.slice (some ⟨b, 0, none⟩) n c) ∧ W7.cell? ⟨w.heap.size, 1, none⟩ = some (.slice u' pm k') ∧ W7.cell? ⟨w.heap.size, 2, none⟩ = some (.int .i64 pf) ∧ W7.cell? ⟨w.heap.size, 3, none⟩ = some (.bool false) ∧ W7.cell? ⟨w.heap.size + 1, 0, none⟩ = some (.int .i64 (a : Int)) ∧ W7.cell? ⟨w.heap.size + 1, 1, none⟩ = some (.int .i64 (B : Int)) ∧ W7.cell? ⟨w.heap.size + 1, 2, none⟩ = some (.int .i64 (t : Int)) ∧ W7.cell? ⟨w.heap.size + 1, 3, none⟩ = some (.slice a6 L7 c6) ∧ W7.cell? ⟨w.heap.size + 1, 4, none⟩ = some (.string AL)) := HS0.out
              have HS4 : Hid (∀ (v0 v1 v2 v3 : Value), (((((W7.setCell ⟨w.heap.size + 1 + 1, 0, none⟩ v0).setCell ⟨w.heap.size + 1 + 1, 1, none⟩ v1).setCell ⟨w.heap.size + 1 + 1, 2, none⟩ v2).setCell ⟨w.heap.size + 1 + 1, 3, none⟩ v3).drew.cell? ⟨w.heap.size, 0, none⟩ = some (.slice (some ⟨b, 0, none⟩) n c) ∧ ((((W7.setCell ⟨w.heap.size + 1 + 1, 0, none⟩ v0).setCell ⟨w.heap.size + 1 + 1, 1, none⟩ v1).setCell ⟨w.heap.size + 1 + 1, 2, none⟩ v2).setCell ⟨w.heap.size + 1 + 1, 3, none⟩ v3).drew.cell? ⟨w.heap.size, 1, none⟩ = some (.slice u' pm k') ∧ ((((W7.setCell ⟨w.heap.size + 1 + 1, 0, none⟩ v0).setCell ⟨w.heap.size + 1 + 1, 1, none⟩ v1).setCell ⟨w.heap.size + 1 + 1, 2, none⟩ v2).setCell ⟨w.heap.size + 1 + 1, 3, none⟩ v3).drew.cell? ⟨w.heap.size, 2, none⟩ = some (.int .i64 pf) ∧ ((((W7.setCell ⟨w.heap.size + 1 + 1, 0, none⟩ v0).setCell ⟨w.heap.size + 1 + 1, 1, none⟩ v1).setCell ⟨w.heap.size + 1 + 1, 2, none⟩ v2).setCell ⟨w.heap.size + 1 + 1, 3, none⟩ v3).drew.cell? ⟨w.heap.size, 3, none⟩ = some (.bool false) ∧ ((((W7.setCell ⟨w.heap.size + 1 + 1, 0, none⟩ v0).setCell ⟨w.heap.size + 1 + 1, 1, none⟩ v1).setCell ⟨w.heap.size + 1 + 1, 2, none⟩ v2).setCell ⟨w.heap.size + 1 + 1, 3, none⟩ v3).drew.cell? ⟨w.heap.size + 1, 0, none⟩ = some (.int .i64 (a : Int)) ∧ ((((W7.setCell ⟨w.heap.size + 1 + 1, 0, none⟩ v0).setCell ⟨w.heap.size + 1 + 1, 1, none⟩ v1).setCell ⟨w.heap.size + 1 + 1, 2, none⟩ v2).setCell ⟨w.heap.size + 1 + 1, 3, none⟩ v3).drew.cell? ⟨w.heap.size + 1, 1, none⟩ = some (.int .i64 (B : Int)) ∧ ((((W7.setCell ⟨w.heap.size + 1 + 1, 0, none⟩ v0).setCell ⟨w.heap.size + 1 + 1, 1, none⟩ v1).setCell ⟨w.heap.size + 1 + 1, 2, none⟩ v2).setCell ⟨w.heap.size + 1 + 1, 3, none⟩ v3).drew.cell? ⟨w.heap.size + 1, 2, none⟩ = some (.int .i64 (t : Int)) ∧ ((((W7.setCell ⟨w.heap.size + 1 + 1, 0, none⟩ v0).setCell ⟨w.heap.size + 1 + 1, 1, none⟩ v1).setCell ⟨w.heap.size + 1 + 1, 2, none⟩ v2).setCell ⟨w.heap.size + 1 + 1, 3, none⟩ v3).drew.cell? ⟨w.heap.size + 1, 3, none⟩ = some (.slice a6 L7 c6) ∧ ((((W7.setCell ⟨w.heap.size + 1 + 1, 0, none⟩ v0).setCell ⟨w.heap.size + 1 + 1, 1, none⟩ v1).setCell ⟨w.heap.size + 1 + 1, 2, none⟩ v2).setCell ⟨w.heap.size + 1 + 1, 3, none⟩ v3).drew.cell? ⟨w.heap.size + 1, 4, none⟩ = some (.string AL))) := fun v0 v1 v2 v3 => s9_set4d W7 (by omega) v0 v1 v2 v3 HSW.out
              have HS5 : Hid (∀ (v0 v1 v2 v3 x0 x1 x2 x3 x4 : Value), ((((((((((W7.setCell ⟨w.heap.size + 1 + 1, 0, none⟩ v0).setCell ⟨w.heap.size + 1 + 1, 1, none⟩ v1).setCell ⟨w.heap.size + 1 + 1, 2, none⟩ v2).setCell ⟨w.heap.size + 1 + 1, 3, none⟩ v3).setCell ⟨w.heap.size + 1 + 1 + 1, 0, none⟩ x0).setCell ⟨w.heap.size + 1 + 1 + 1, 1, none⟩ x1).setCell ⟨w.heap.size + 1 + 1 + 1, 2, none⟩ x2).setCell ⟨w.heap.size + 1 + 1 + 1, 3, none⟩ x3).setCell ⟨w.heap.size + 1 + 1 + 1, 4, none⟩ x4).drew.cell? ⟨w.heap.size, 0, none⟩ = some (.slice (some ⟨b, 0, none⟩) n c) ∧ (((((((((W7.setCell ⟨w.heap.size + 1 + 1, 0, none⟩ v0).setCell ⟨w.heap.size + 1 + 1, 1, none⟩ v1).setCell ⟨w.heap.size + 1 + 1, 2, none⟩ v2).setCell ⟨w.heap.size + 1 + 1, 3, none⟩ v3).setCell ⟨w.heap.size + 1 + 1 + 1, 0, none⟩ x0).setCell ⟨w.heap.size + 1 + 1 + 1, 1, none⟩ x1).setCell ⟨w.heap.size + 1 + 1 + 1, 2, none⟩ x2).setCell ⟨w.heap.size + 1 + 1 + 1, 3, none⟩ x3).setCell ⟨w.heap.size + 1 + 1 + 1, 4, none⟩ x4).drew.cell? ⟨w.heap.size, 1, none⟩ = some (.slice u' pm k') ∧ (((((((((W7.setCell ⟨w.heap.size + 1 + 1, 0, none⟩ v0).setCell ⟨w.heap.size + 1 + 1, 1, none⟩ v1).setCell ⟨w.heap.size + 1 + 1, 2, none⟩ v2).setCell ⟨w.heap.size + 1 + 1, 3, none⟩ v3).setCell ⟨w.heap.size + 1 + 1 + 1, 0, none⟩ x0).setCell ⟨w.heap.size + 1 + 1 + 1, 1, none⟩ x1).setCell ⟨w.heap.size + 1 + 1 + 1, 2, none⟩ x2).setCell ⟨w.heap.size + 1 + 1 + 1, 3, none⟩ x3).setCell ⟨w.heap.size + 1 + 1 + 1, 4, none⟩ x4).drew.cell? ⟨w.heap.size, 2, none⟩ = some (.int .i64 pf) ∧ (((((((((W7.setCell ⟨w.heap.size + 1 + 1, 0, none⟩ v0).setCell ⟨w.heap.size + 1 + 1, 1, none⟩ v1).setCell ⟨w.heap.size + 1 + 1, 2, none⟩ v2).setCell ⟨w.heap.size + 1 + 1, 3, none⟩ v3).setCell ⟨w.heap.size + 1 + 1 + 1, 0, none⟩ x0).setCell ⟨w.heap.size + 1 + 1 + 1, 1, none⟩ x1).setCell ⟨w.heap.size + 1 + 1 + 1, 2, none⟩ x2).setCell ⟨w.heap.size + 1 + 1 + 1, 3, none⟩ x3).setCell ⟨w.heap.size + 1 + 1 + 1, 4, none⟩ x4).drew.cell? ⟨w.heap.size, 3, none⟩ = some (.bool false) ∧ (((((((((W7.setCell ⟨w.heap.size + 1 + 1, 0, none⟩ v0).setCell ⟨w.heap.size + 1 + 1, 1, none⟩ v1).setCell ⟨w.heap.size + 1 + 1, 2, none⟩ v2).setCell ⟨w.heap.size + 1 + 1, 3, none⟩ v3).setCell ⟨w.heap.size + 1 + 1 + 1, 0, none⟩ x0).setCell ⟨w.heap.size + 1 + 1 + 1, 1, none⟩ x1).setCell ⟨w.heap.size + 1 + 1 + 1, 2, none⟩ x2).setCell ⟨w.heap.size + 1 + 1 + 1, 3, none⟩ x3).setCell ⟨w.heap.size + 1 + 1 + 1, 4, none⟩ x4).drew.cell? ⟨w.heap.size + 1, 0, none⟩ = some (.int .i64 (a : Int)) ∧ (((((((((W7.setCell ⟨w.heap.size + 1 + 1, 0, none⟩ v0).setCell ⟨w.heap.size + 1 + 1, 1, none⟩ v1).setCell ⟨w.heap.size + 1 + 1, 2, none⟩ v2).setCell ⟨w.heap.size + 1 + 1, 3, none⟩ v3).setCell ⟨w.heap.size + 1 + 1 + 1, 0, none⟩ x0).setCell ⟨w.heap.size + 1 + 1 + 1, 1, none⟩ x1).setCell ⟨w.heap.size + 1 + 1 + 1, 2, none⟩ x2).setCell ⟨w.heap.size + 1 + 1 + 1, 3, none⟩ x3).setCell ⟨w.heap.size + 1 + 1 + 1, 4, none⟩ x4).drew.cell? ⟨w.heap.size + 1, 1, none⟩ = some (.int .i64 (B : Int)) ∧ (((((((((W7.setCell ⟨w.heap.size + 1 + 1, 0, none⟩ v0).setCell ⟨w.heap.size + 1 + 1, 1, none⟩ v1).setCell ⟨w.heap.size + 1 + 1, 2, none⟩ v2).setCell ⟨w.heap.size + 1 + 1, 3, none⟩ v3).setCell ⟨w.heap.size + 1 + 1 + 1, 0, none⟩ x0).setCell ⟨w.heap.size + 1 + 1 + 1, 1, none⟩ x1).setCell ⟨w.heap.size + 1 + 1 + 1, 2, none⟩ x2).setCell ⟨w.heap.size + 1 + 1 + 1, 3, none⟩ x3).setCell ⟨w.heap.size + 1 + 1 + 1, 4, none⟩ x4).drew.cell? ⟨w.heap.size + 1, 2, none⟩ = some (.int .i64 (t : Int)) ∧ (((((((((W7.setCell ⟨w.heap.size + 1 + 1, 0, none⟩ v0).setCell ⟨w.heap.size + 1 + 1, 1, none⟩ v1).setCell ⟨w.heap.size + 1 + 1, 2, none⟩ v2).setCell ⟨w.heap.size + 1 + 1, 3, none⟩ v3).setCell ⟨w.heap.size + 1 + 1 + 1, 0, none⟩ x0).setCell ⟨w.heap.size + 1 + 1 + 1, 1, none⟩ x1).setCell ⟨w.heap.size + 1 + 1 + 1, 2, none⟩ x2).setCell ⟨w.heap.size + 1 + 1 + 1, 3, none⟩ x3).setCell ⟨w.heap.size + 1 + 1 + 1, 4, none⟩ x4).drew.cell? ⟨w.heap.size + 1, 3, none⟩ = some (.slice a6 L7 c6) ∧ (((((((((W7.setCell ⟨w.heap.size + 1 + 1, 0, none⟩ v0).setCell ⟨w.heap.size + 1 + 1, 1, none⟩ v1).setCell ⟨w.heap.size + 1 + 1, 2, none⟩ v2).setCell ⟨w.heap.size + 1 + 1, 3, none⟩ v3).setCell ⟨w.heap.size + 1 + 1 + 1, 0, none⟩ x0).setCell ⟨w.heap.size + 1 + 1 + 1, 1, none⟩ x1).setCell ⟨w.heap.size + 1 + 1 + 1, 2, none⟩ x2).setCell ⟨w.heap.size + 1 + 1 + 1, 3, none⟩ x3).setCell ⟨w.heap.size + 1 + 1 + 1, 4, none⟩ x4).drew.cell? ⟨w.heap.size + 1, 4, none⟩ = some (.string AL))) := fun v0 v1 v2 v3 x0 x1 x2 x3 x4 => s9_set5d _ (by omega) x0 x1 x2 x3 x4 (s9_set4 W7 (by omega) v0 v1 v2 v3 HSW.out)
              obtain ⟨W, hW, hl1, hl2, hk, hk2⟩ := HB7.out.fin (.slice (some ⟨b, 0, none⟩) n c) (.slice u' pm k') (.int .i64 pf) (.bool false)
              have HF : Hid ((((((((((W7.setCell ⟨w.heap.size + 1 + 1, 0, none⟩ (.slice (some ⟨b, 0, none⟩) n c)).setCell ⟨w.heap.size + 1 + 1, 1, none⟩ (.slice u' pm k')).setCell ⟨w.heap.size + 1 + 1, 2, none⟩ (.int .i64 pf)).setCell ⟨w.heap.size + 1 + 1, 3, none⟩ (.bool false)).setCell ⟨w.heap.size + 1 + 1 + 1, 0, none⟩ (.int .i64 (a : Int))).setCell ⟨w.heap.size + 1 + 1 + 1, 1, none⟩ (.int .i64 (B : Int))).setCell ⟨w.heap.size + 1 + 1 + 1, 2, none⟩ (.int .i64 (t : Int))).setCell ⟨w.heap.size + 1 + 1 + 1, 3, none⟩ (.slice a6 L7 c6)).setCell ⟨w.heap.size + 1 + 1 + 1, 4, none⟩ (.string AL)).drew = W) := hW
              have HL1 : Hid _ := hl1
              have HL2 : Hid _ := hl2
              have HKW : Hid (Kept (fun _ => False) w W) := hk
              have HKW2 : Hid _ := hk2
              clear hW hl1 hl2 hk hk2
              go_wp2_with fail
              go_region_held (fun (w' : World) => (w'.cell? ⟨w.heap.size, 0, none⟩ = some (.slice (some ⟨b, 0, none⟩) n c) ∧ w'.cell? ⟨w.heap.size, 1, none⟩ = some (.slice u' pm k') ∧ w'.cell? ⟨w.heap.size, 2, none⟩ = some (.int .i64 pf) ∧ w'.cell? ⟨w.heap.size, 3, none⟩ = some (.bool false) ∧ w'.cell? ⟨w.heap.size + 1, 0, none⟩ = some (.int .i64 (a : Int)) ∧ w'.cell? ⟨w.heap.size + 1, 1, none⟩ = some (.int .i64 (B : Int)) ∧ w'.cell? ⟨w.heap.size + 1, 2, none⟩ = some (.int .i64 (t : Int)) ∧ w'.cell? ⟨w.heap.size + 1, 3, none⟩ = some (.slice a6 L7 c6) ∧ w'.cell? ⟨w.heap.size + 1, 4, none⟩ = some (.string AL))) (first | (with_reducible assumption) | (with_reducible exact HS0.out) | (with_reducible exact HS4.out _ _ _ _) | (with_reducible exact HS5.out _ _ _ _ _ _ _ _ _))
                (first | fail)
              all_goals go_wp2_with fail
              all_goals rw [HF.out]
              all_goals refine bodyPost_ret (results_two rfl rfl rfl HL1.out HL2.out) rfl ?_
              all_goals exact HFIN.out _ HKW.out (HR7.out.1.fin HB7.out HKW2.out) (own_other HR7.out.2 (.inl rfl) HKW2.out (fun i hi => HB7.out.tg i (by omega)))
end Go.Proofs.Ythfhjfemcmdmfaa
