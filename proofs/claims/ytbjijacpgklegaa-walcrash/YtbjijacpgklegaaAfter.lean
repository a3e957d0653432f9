/- wal: a log behind a crash. -/
import Derived.Test.YtbjijacpgklegaaJet
namespace Go.Proofs.Ytbjijacpgklegaa
open Go.ChangeShapes Go.WideShapes Go.ChangeAt Go.RowKit
set_option linter.unusedVariables false
set_option maxRecDepth 100000

theorem scan_many (f : Nat) (t : Int) (s : ByteArray) : ∀ u, u ≤ s.size → (scanG f t s u).1.length ≤ s.size - u := by
  induction f with
  | zero => intro u hu; exact Nat.zero_le _
  | succ f ih =>
    intro u hu
    rw [scanG]
    cases hr : recOf t (s.extract u s.size) with
    | none => exact Nat.zero_le _
    | some r =>
      have h1 := rec_fits hr
      have h2 : (s.extract u s.size).size = s.size - u := by simp
      have h3 := ih (u + (10 + r.size)) (by omega)
      simp only [List.length_cons]
      omega
theorem scan_may (f : Nat) (t : Int) (s : ByteArray) : ∀ u, mayG (scanG f t s u).1 := by
  induction f with
  | zero => intro u x hx; cases hx
  | succ f ih =>
    intro u
    rw [scanG]
    cases hr : recOf t (s.extract u s.size) with
    | none => intro x hx; cases hx
    | some r =>
      have h1 := rec_fits hr
      intro x hx
      rcases List.mem_cons.1 hx with rfl | hx
      · exact ⟨h1.2.1, h1.2.2⟩
      · exact ih _ x hx
theorem frame_inj (x y : ByteArray) (hx : x.size ≠ 0 ∧ x.size ≤ 1024) (hy : y.size ≠ 0 ∧ y.size ≤ 1024) (h : frameS 1 x = frameS 1 y) : x = y := by
  have h1 := front.rec_front 1 x (frameS 1 x) ⟨by omega, hx⟩ [] (by rw [List.append_nil]; rfl)
  have h2 := front.rec_front 1 y (frameS 1 x) ⟨by omega, hy⟩ [] (by rw [List.append_nil, h]; rfl)
  rw [h1] at h2
  exact Option.some.inj h2

/-- A disk behind a crash. -/
def After (W w : World) (p : Nat) (h : List ByteArray) : Prop :=
  ∃ F d, (∀ k, F k → W.heap.size ≤ k) ∧ Disk w F p d ∧ d.off = false ∧ d.n = 40 ∧ Held d (frames 1 h) ∧ Below W.heap.size W w
theorem gone_crash {W w : World} {Z : Nat → Prop} {p : Nat} {h : List ByteArray} (hg : Gone W w Z p h) (u : Value) (ks : List Int) (hu : Ints w u ks) (hlt : ∀ a n c, u = .slice (some a) n c → a.block < W.heap.size) (hkl : ks.length ≤ 9223372036854775807) :
    Calls Try.prog 23 #[.pointer (some ⟨p, 0, none⟩), u] w fun e w' => e = .returned (.int .i64 0) ∧ After W w' p h ∧ Kept Z w w' := by
  obtain ⟨F, d, h1, hz, h5, h6, h7, h9, h10⟩ := hg
  refine (disk_crash h5 (by omega) u ks hu (fun a n c e z => by have := hlt a n c e; have := hz _ (h1 _ z); omega) hkl).mono ?_
  rintro e w' ⟨rfl, d', k'⟩
  exact ⟨rfl, ⟨F, d.crash ks, fun k hk => hz k (h1 k hk), d', rfl, h6, fun i j hj hl => h9.crash ks i j hj hl, h10.trans (k'.below h10.size (fun k hk => hz k (h1 k hk)))⟩, k'.mono h1⟩
theorem after_open {W w : World} {p : Nat} {h : List ByteArray} (ha : After W w p h) (hm : mayG h) (hs : sizeG h ≤ 1280) :
    Calls Try.prog 16 #[.pointer (some ⟨p, 0, none⟩), .int .i64 0, .int .i64 40, .int .i64 1] w fun e w' => ∃ q F z u v, e = .returned (.tuple #[.pointer (some ⟨q, 0, none⟩), .int .i64 0]) ∧ LogAt w' F q p 0 40 1 z u v ∧ z.take h.length = h ∧ h.length ≤ z.length ∧ z.length ≤ 1280 ∧ mayG z ∧ Below W.heap.size W w' ∧ Kept (fun _ => False) w w' := by
  obtain ⟨F, d, h1, h5, h6, h7, h8, h9⟩ := ha
  have := open_on h5 h6 0 40 1 (by omega) (by omega) (by omega)
  refine this.mono ?_
  rintro e w' ⟨q, v, rfl, l, k, _, _⟩
  obtain ⟨s1, s2⟩ := scan_sure h5 1 40 (by omega) (by omega) h hm (by omega) h8
  have hz : (⟨(cat d 0 40).toArray⟩ : ByteArray).size = 1280 := cat_len h5 0 40 (by omega)
  have s3 := scan_many (1280 + 1) ((1 : Nat) : Int) ⟨(cat d 0 40).toArray⟩ 0 (Nat.zero_le _)
  have s4 := scan_may (1280 + 1) ((1 : Nat) : Int) ⟨(cat d 0 40).toArray⟩ 0
  have e : scanS ((1 : Nat) : Int) ⟨(cat d 0 40).toArray⟩ = scanG (1280 + 1) ((1 : Nat) : Int) ⟨(cat d 0 40).toArray⟩ 0 := by unfold scanS; rw [hz]
  rw [← e] at s3 s4
  rw [hz] at s3
  exact ⟨q, F, _, _, v, rfl, l, s1, s2, s3, s4, h9.trans (k.below h9.size (fun _ z => z.elim)), k⟩
end Go.Proofs.Ytbjijacpgklegaa
