/- wal: the records that bytes begin with. -/
import Derived.Test.YthfhjfemcmdmfaaFirst
namespace Go.Proofs.Ythfhjfemcmdmfaa
open Go.ChangeShapes Go.WideShapes Go.ChangeAt Go.RowKit
set_option linter.unusedVariables false
set_option maxRecDepth 100000

def sv (l : List ByteArray) : List Value := l.map Value.string
theorem sv_len (l : List ByteArray) : (sv l).length = l.length := by simp [sv]
theorem sv_one (l : List ByteArray) : ∀ v ∈ sv l, v.oneCell' = true := by
  intro v hv
  obtain ⟨x, _, rfl⟩ := List.mem_map.1 hv
  rfl
theorem Try.info9 : (Try.prog.info? 9).map (fun i => (i.zero, i.size, i.bytes)) = some (some (.string ⟨#[]⟩), 1, 16) := by kernel_rfl

theorem append_strs {w : World} {v : Value} {l : List ByteArray} {base : Nat} (h : w.ownsRow base 9 1 v l.length (sv l)) (b o c : Nat) (m : List ByteArray) (hm : ∀ k (hk : k < m.length), w.cell? ⟨b, o + k, none⟩ = some (.string m[k])) (hs : l.length + m.length ≤ 1048576) (hb : base ≤ w.heap.size) :
    ∃ v' w', (Builtin.append_ #[26, 26] 26 #[v, .slice (some ⟨b, o, none⟩) m.length c]).run Try.prog w = .ok v' w' ∧ w'.ownsRow base 9 1 v' (l ++ m).length (sv (l ++ m)) ∧ w.grownBy w' v.ownBlock ∧ (∀ k, v'.ownBlock = some k → v.ownBlock = some k ∨ k = w.heap.size) := by
  obtain ⟨i, hi, hz, h1, h2⟩ := info_of Try.info9
  obtain ⟨v', w', a1, a2, a3, a4, a5⟩ := run_append_own_at (P := Try.prog) w base 26 26 9 i _ 1 16 Try.underlying26 hi hz h1 h2 (by simp [Value.cells]) (by omega) v l.length (sv l) h ⟨b, o, none⟩ m.length c (sv m) (by rw [sv_len]; omega)
    (fun j u hu => by
      rw [Go.WideShapes.add_plain]
      have hj : j < m.length := by have := (List.getElem?_eq_some_iff.1 hu).1; rwa [sv_len] at this
      rw [hm j hj]
      rw [← hu]
      simp [sv, hj]) (sv_one m) (by unfold maxLen; omega) (by omega) hb
  refine ⟨v', w', a1, ?_, a3, fun k hk => ?_⟩
  · rw [List.length_append]
    simpa [sv] using a2
  · rcases a5 with e | e
    · exact .inl (e ▸ hk)
    · rw [e] at hk; cases hk; exact .inr rfl

/-- One text behind others. -/
theorem append_one {w : World} {v : Value} {l : List ByteArray} {base : Nat} (h : w.ownsRow base 9 1 v l.length (sv l)) (r : ByteArray) (hs : l.length < 1048576) (hb : base ≤ w.heap.size) :
    ∃ v' w', (Builtin.append_ #[26, 26] 26 #[v, .slice (some ⟨w.heap.size, 0, none⟩) 1 1]).run Try.prog (w.alloc (.cells #[.string r] 9)) = .ok v' w' ∧ w'.ownsRow base 9 1 v' (l ++ [r]).length (sv (l ++ [r])) ∧ (w.alloc (.cells #[.string r] 9)).grownBy w' v.ownBlock := by
  obtain ⟨v', w', a1, a2, a3, _⟩ := append_strs (h.alloc (.cells #[.string r] 9)) w.heap.size 0 1 [r] (fun k hk => by
    have : k = 0 := by simpa using hk
    subst this
    simp) (by simp; omega) (Nat.le_trans hb (by simp))
  exact ⟨v', w', a1, a2, a3⟩

/-- The records from a place on, and where they end. -/
def scanG : Nat → Int → ByteArray → Nat → List ByteArray × Nat
  | 0, _, _, u => ([], u)
  | f + 1, t, s, u => match recOf t (s.extract u s.size) with
    | none => ([], u)
    | some r => (r :: (scanG f t s (u + (10 + r.size))).1, (scanG f t s (u + (10 + r.size))).2)
def scanS (t : Int) (s : ByteArray) : List ByteArray × Nat := scanG (s.size + 1) t s 0
theorem scanG_none (f : Nat) (t : Int) (s : ByteArray) (u : Nat) (h : recOf t (s.extract u s.size) = none) : scanG f t s u = ([], u) := by
  cases f with
  | zero => rfl
  | succ f => rw [scanG, h]
theorem rec_fits {t : Int} {s r : ByteArray} (h : recOf t s = some r) : 10 + r.size ≤ s.size ∧ r.size ≠ 0 ∧ r.size ≤ 1024 := by
  unfold recOf at h
  split at h
  · rename_i hc
    cases h
    have h1 : (s.extract 10 (endOf s)).size = endOf s - 10 := by simp; omega
    have h2 := hc.2.2.1.2
    omega
  · cases h

theorem scan_is (t : Int) (s : ByteArray) (hs : s.size ≤ 131072) (w : World) :
    Calls Try.prog 11 #[.int .i64 t, .string s] w fun e w' => ∃ v, e = .returned (.tuple #[v, .int .i64 ((scanS t s).2 : Nat)]) ∧ w'.ownsRow w.heap.size 9 1 v (scanS t s).1.length (sv (scanS t s).1) ∧ Kept (fun _ => False) w w' := by
  have HF : Hid (∀ x w, x.size ≤ 131072 → Calls Try.prog 34 #[.int .i64 t, .string x] w fun e w' => (∃ r, e = .returned (.tuple #[.string r, .bool (recOf t x).isSome]) ∧ ((recOf t x).isSome = true → recOf t x = some r)) ∧ Kept (fun _ => False) w w') := fun x w h => first_is t x (by omega) w
  go_enter Try.func11, Try.ntmps11
  go_wp2_with fail
  go_loopw [6, 7] (fun rv uv wr => ∃ (R : List ByteArray) (u f : Nat), uv = .int .i64 u ∧ u ≤ s.size ∧ 11 * R.length ≤ u ∧ s.size < f + u ∧ Hid (scanS t s = (R ++ (scanG f t s u).1, (scanG f t s u).2) ∧ wr.ownsRow w.heap.size 9 1 rv R.length (sv R) ∧ Kept (fun _ => False) w wr))
    (fun _ u _ => s.size - (intOf u).toNat)
  case atStart => exact ⟨[], 0, s.size + 1, rfl, Nat.zero_le _, Nat.zero_le _, by omega, rfl, World.ownsRow_nil w _ 9 1, Kept.refl _ w⟩
  case round =>
    obtain ⟨R, u, f, rfl, hu, hR, hf, HR⟩ := hrel
    have hui : (u : Int) ≤ (s.size : Int) := by omega
    have hxs : (s.extract u s.size).size = s.size - u := by simp
    obtain ⟨e0, ow, kw⟩ := HR.out
    have HE : Hid (scanS t s = (R ++ (scanG f t s u).1, (scanG f t s u).2)) := e0
    have HK : Hid (Kept (fun _ => False) w wr) := kw
    have HO := (show Hid _ from ow)
    clear HR e0 ow kw
    have HX := (show Hid _ from HF.out (s.extract u s.size) wr (by omega))
    go_wp2_with fail
    refine Calls.mono HX.out ?_; rintro e w1 ⟨⟨r, rfl, hr⟩, k1⟩
    have HO1 : Hid (w1.ownsRow w.heap.size 9 1 u6 R.length (sv R)) := ownsRow_kept HO.out (fun i hi => k1.block i (World.ownsRow.lt HO.out i hi).2 (fun q => q))
    replace HK : Hid (Kept (fun _ => False) w w1) := HK.out.trans k1 (fun _ q => .inl q)
    clear k1 HX HO
    cases hrec : recOf t (s.extract u s.size) with
    | none =>
      rw [hrec] at hr
      have HN := (show Hid _ from scanG_none f t s u hrec)
      clear hrec hr
      simp only [Option.isSome_none]
      go_wp2_with fail
      go_ret2
      refine ⟨u6, ?_, ?_, HK.out⟩
      · rw [HE.out, HN.out]
        rfl
      · rw [HE.out, HN.out, List.append_nil]
        exact HO1.out
    | some r' =>
      rw [hrec] at hr
      have er : r' = r := Option.some.inj (hr rfl)
      subst er
      obtain ⟨hfit, hr0, hr1⟩ := rec_fits hrec
      obtain ⟨f', rfl⟩ : ∃ f', f = f' + 1 := ⟨f - 1, by omega⟩
      have HS : Hid (scanG (f' + 1) t s u = (r' :: (scanG f' t s (u + (10 + r'.size))).1, (scanG f' t s (u + (10 + r'.size))).2)) := by
        show scanG (f' + 1) t s u = _
        rw [scanG, hrec]
      clear hrec hr
      simp only [Option.isSome_some]
      obtain ⟨v2, W2, ra, oa, ga⟩ := append_one HO1.out r' (by omega) HK.out.size
      have HA : Hid (W2.ownsRow w.heap.size 9 1 v2 (R ++ [r']).length (sv (R ++ [r'])) ∧ Kept (fun _ => False) w W2) := ⟨oa, (HK.out.alloc _).grown ga (fun k hk => .inr (World.ownsRow.lt HO1.out k hk).1)⟩
      have RA := (show Hid _ from ra)
      clear ra oa ga HO1 HK
      have hrsz : (r'.size : Int) ≤ 1024 := by omega
      go_wp2_with (first | ((with_reducible apply st_append (x := .tmp 22)); (case ho => rfl); (case hgd => rfl); (case hr => exact RA.out)))
      go_roundw
      case rel =>
        refine ⟨R ++ [r'], u + (10 + r'.size), f', by go_num, by omega, by simp; omega, by omega, ?_, HA.out⟩
        rw [HE.out, HS.out, List.append_assoc]
        rfl
      case measure => simp [intOf]; omega
end Go.Proofs.Ythfhjfemcmdmfaa
