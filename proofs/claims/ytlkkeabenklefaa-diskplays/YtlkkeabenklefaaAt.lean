/- A disk of the call's own. -/
import Derived.Test.YtlkkeabenklefaaFilled
import Derived.Deep.RegionWith
namespace Go.Proofs.Ytlkkeabenklefaa
open Go.ChangeShapes Go.WideShapes Go.ChangeAt Go.RowKit
set_option linter.unusedVariables false

/-- A disk of the call's own, made behind w0. -/
def At (w0 w : World) (p : Nat) (d : Dk) : Prop := ∃ F, Disk w F p d ∧ Below w0.heap.size w0 w ∧ ∀ k, F k → w0.heap.size ≤ k

theorem At.step {w0 w w' : World} {p : Nat} {d : Dk} (h : At w0 w p d) (k : Kept (fun _ => False) w w') : At w0 w' p d := by
  obtain ⟨F, h1, h2, h3⟩ := h
  exact ⟨F, h1.kept k (fun _ _ q => q), h2.trans ((k.below (Nat.le_refl _) (fun _ q => q.elim)).mono h2.size), h3⟩
theorem At.drew {w0 w : World} {p : Nat} {d : Dk} (h : At w0 w p d) : At w0 w.drew p d := h.step (Kept.refl _ w).drew
theorem At.below {w0 w : World} {p : Nat} {d : Dk} (h : At w0 w p d) : Below w0.heap.size w0 w := by
  obtain ⟨F, h1, h2, h3⟩ := h
  exact h2
theorem At.write {w0 w : World} {p : Nat} {d : Dk} (h : At w0 w p d) (a : Nat) (ha : a < d.n) (s : ByteArray) (hs : s.size = 32) (hn : d.Q.length < 1048576) :
    Calls Try.prog 11 #[.pointer (some ⟨p, 0, none⟩), .int .i64 (a : Int), .string s] w fun e w' => e = .returned (.int .i64 (if d.on then 0 else 30)) ∧ At w0 w' p (d.write a s.data.toList) := by
  obtain ⟨F, h1, h2, h3⟩ := h
  refine (disk_write h1 a ha s hs hn).mono ?_
  rintro e w' ⟨rfl, F', k1, k2, k3⟩
  exact ⟨rfl, F', k1, h2.trans (k2.below h2.size h3), fun k hk => (k3 k hk).elim (h3 k) (fun q => Nat.le_trans h2.size q)⟩
theorem At.flush {w0 w : World} {p : Nat} {d : Dk} (h : At w0 w p d) (hn : d.Q.length ≤ 1048576) :
    Calls Try.prog 15 #[.pointer (some ⟨p, 0, none⟩)] w fun e w' => e = .returned (.int .i64 (if d.on then 0 else 30)) ∧ At w0 w' p d.flush := by
  obtain ⟨F, h1, h2, h3⟩ := h
  refine (disk_flush h1 hn).mono ?_
  rintro e w' ⟨rfl, k1, k2⟩
  exact ⟨rfl, F, k1, h2.trans (k2.below h2.size h3), h3⟩
theorem At.fuse {w0 w : World} {p : Nat} {d : Dk} (h : At w0 w p d) (n : Int) (hn : n ≤ 9223372036854775807) :
    Calls Try.prog 17 #[.pointer (some ⟨p, 0, none⟩), .int .i64 n] w fun e w' => e = .returned (.int .i64 0) ∧ At w0 w' p (d.setFuse n) := by
  obtain ⟨F, h1, h2, h3⟩ := h
  refine (disk_fuse h1 n hn).mono ?_
  rintro e w' ⟨rfl, k1, k2⟩
  exact ⟨rfl, F, k1, h2.trans (k2.below h2.size h3), h3⟩
/-- The numbers of a crash: none, or such as lay there before the disk, or the one that was just laid. -/
theorem At.crash {w0 w : World} {p : Nat} {d : Dk} (h : At w0 w p d) (hn : d.Q.length ≤ 1048576) (u : Value) (ks : List Int) (hu : Ints w0 u ks) (hk : ks.length ≤ 9223372036854775807) :
    Calls Try.prog 19 #[.pointer (some ⟨p, 0, none⟩), u] w fun e w' => e = .returned (.int .i64 0) ∧ At w0 w' p (d.crash ks) := by
  obtain ⟨F, h1, h2, h3⟩ := h
  have hu' : Ints w u ks ∧ ((∀ a n c, u = .slice (some a) n c → ¬ F a.block) ∨ ks = []) := by
    rcases hu with ⟨a, c, rfl, rfl⟩ | ⟨b, o, c, rfl, hb⟩
    · exact ⟨.inl ⟨a, c, rfl, rfl⟩, .inr rfl⟩
    · by_cases e : ks = []
      · subst e
        exact ⟨.inr ⟨b, o, c, rfl, fun k hk => by cases hk⟩, .inr rfl⟩
      · have hlt : b < w0.heap.size := World.block_lt_of_cell? w0 _ (hb 0 (List.length_pos_iff.2 e))
        refine ⟨.inr ⟨b, o, c, rfl, fun k hk => (h2.cell hlt).trans (hb k hk)⟩, .inl ?_⟩
        intro a n c' e1 hF
        cases e1
        have := h3 b hF
        omega
  rcases hu' with ⟨hu1, hu2 | hu2⟩
  · refine (disk_crash h1 hn u ks hu1 hu2 hk).mono ?_
    rintro e w' ⟨rfl, k1, k2⟩
    exact ⟨rfl, F, k1, h2.trans (k2.below h2.size h3), h3⟩
  · subst hu2
    have hz : ∃ ko kc, u = .slice ko 0 kc := by
      rcases hu with ⟨a, c, rfl, _⟩ | ⟨b, o, c, rfl, _⟩
      · exact ⟨_, _, rfl⟩
      · exact ⟨_, _, rfl⟩
    obtain ⟨ko, kc, rfl⟩ := hz
    obtain ⟨bs, bl, v, hl⟩ := h1
    refine (crash_zero hl hn ko 0 kc (.inl rfl)).mono ?_
    rintro e w' ⟨rfl, v', k1, k2⟩
    refine ⟨rfl, F, ⟨bs, bl, v', ?_⟩, h2.trans (k2.below h2.size h3), h3⟩
    have e : settled d.S d.last d.Q = Dk.last { d with Q := [], fuse := -1, off := false } := by
      have := settle_torn d.S d.Q []
      simp only [List.zip_nil_right] at this
      exact this
    rw [e] at k1
    have e2 : d.crash [] = { d with Q := [], fuse := -1, off := false } := by unfold Dk.crash; rw [List.zip_nil_right]; rfl
    rw [e2]
    exact k1
theorem At.crash_one {w0 w : World} {p : Nat} {d : Dk} (h : At w0 w p d) (hn : d.Q.length ≤ 1048576) (x : Int) :
    Calls Try.prog 19 #[.pointer (some ⟨p, 0, none⟩), .slice (some ⟨w.heap.size, 0, none⟩) 1 1] (w.alloc (.cells #[.int .i64 x] 3)) fun e w' => e = .returned (.int .i64 0) ∧ At w0 w' p (d.crash [x]) := by
  have hs := h.step ((Kept.refl (fun _ => False) w).alloc (.cells #[.int .i64 x] 3))
  obtain ⟨F, h1, h2, h3⟩ := h
  have k0 : Kept (fun _ => False) w (w.alloc (.cells #[.int .i64 x] 3)) := (Kept.refl _ w).alloc _
  have h2' : Below w0.heap.size w0 (w.alloc (.cells #[.int .i64 x] 3)) := h2.alloc h2.size _
  refine (disk_crash (h1.kept k0 (fun _ _ q => q)) hn _ [x] (.inr ⟨w.heap.size, 0, 1, rfl, fun k hk => ?_⟩) (fun a n c e hF => ?_) (by simp)).mono ?_
  · have : k = 0 := by simpa using hk
    subst this
    simp
  · cases e
    have := h1.bound _ hF
    simp at this
  · rintro e w' ⟨rfl, k1, k2⟩
    exact ⟨rfl, F, k1, h2'.trans (k2.below h2'.size h3), h3⟩
theorem At.read {w0 w : World} {p : Nat} {d : Dk} (h : At w0 w p d) (a : Nat) (ha : a < d.n) :
    Calls Try.prog 13 #[.pointer (some ⟨p, 0, none⟩), .int .i64 (a : Int)] w fun e w' => e = .returned (if d.off then .tuple #[.string ⟨#[]⟩, .int .i64 30] else .tuple #[.string ⟨(d.last a).toArray⟩, .int .i64 0]) ∧ w' = w := by
  obtain ⟨F, h1, h2, h3⟩ := h
  exact read_is h1 a ha
theorem At.size {w0 w : World} {p : Nat} {d : Dk} (h : At w0 w p d) : Calls Try.prog 23 #[.pointer (some ⟨p, 0, none⟩)] w fun e w' => e = .returned (.int .i64 (d.n : Int)) ∧ w' = w := by
  obtain ⟨F, h1, h2, h3⟩ := h
  exact disk_size h1
theorem At.off {w0 w : World} {p : Nat} {d : Dk} (h : At w0 w p d) : Calls Try.prog 21 #[.pointer (some ⟨p, 0, none⟩)] w fun e w' => e = .returned (.bool d.off) ∧ w' = w := by
  obtain ⟨F, h1, h2, h3⟩ := h
  exact disk_off h1
theorem At.waits {w0 w : World} {p : Nat} {d : Dk} (h : At w0 w p d) : Calls Try.prog 22 #[.pointer (some ⟨p, 0, none⟩)] w fun e w' => e = .returned (.int .i64 (d.Q.length : Int)) ∧ w' = w := by
  obtain ⟨F, h1, h2, h3⟩ := h
  exact disk_waits h1
theorem new_at (n : Nat) (h1 : 1 ≤ n) (h2 : n ≤ 4096) (w : World) : Calls Try.prog 7 #[.int .i64 (n : Int)] w fun e w' => ∃ p, e = .returned (.tuple #[.pointer (some ⟨p, 0, none⟩), .int .i64 0]) ∧ At w w' p (fresh n) := by
  refine (new_is n h1 h2 w).mono ?_
  rintro e w' ⟨p, F, rfl, k1, k2, k3⟩
  exact ⟨p, rfl, F, k1, k2, k3⟩

/-- The disk of awake, at its four stages. -/
def aw (k : Nat) : Dk :=
  match k with
  | 0 => fresh 2
  | 1 => { n := 2, S := fun _ => List.replicate 32 0, Q := [(0, (fill 97).data.toList)], fuse := -1, off := false }
  | 2 => { n := 2, S := flushed (fun _ => List.replicate 32 0) [(0, (fill 97).data.toList)], Q := [], fuse := -1, off := false }
  | 3 => { n := 2, S := flushed (fun _ => List.replicate 32 0) [(0, (fill 97).data.toList)], Q := [(0, (fill 98).data.toList)], fuse := -1, off := false }
  | _ => Dk.crash { n := 2, S := flushed (fun _ => List.replicate 32 0) [(0, (fill 97).data.toList)], Q := [(0, (fill 98).data.toList)], fuse := -1, off := false } [5]

theorem aw_last : (⟨((aw 4).last 0).toArray⟩ : ByteArray) = (fill 98).extract 0 5 ++ (fill 97).extract 5 32 := by decide
end Go.Proofs.Ytlkkeabenklefaa
