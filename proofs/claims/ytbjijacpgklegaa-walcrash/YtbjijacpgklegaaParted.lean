/- wal: the sector that a place parts. -/
import Derived.Test.YtbjijacpgklegaaFramed
import Derived.Deep.QuietTactic
namespace Go.Proofs.Ytbjijacpgklegaa
open Go.ChangeShapes Go.WideShapes Go.ChangeAt Go.RowKit
set_option linter.unusedVariables false
set_option maxRecDepth 100000

theorem kept_drewN (w : World) (m : Nat) : Kept (fun _ => False) w (w.drewN m) := ⟨rfl, rfl, rfl, Nat.le_refl _, fun _ _ _ => rfl⟩

theorem parted_even {w : World} (q : Nat) (place : Nat) (hp : place ≤ 1048576) (h0 : place % 32 = 0) :
    Calls Try.prog 65 #[.pointer (some ⟨q, 0, none⟩), .int .i64 (place : Int)] w fun e w' => e = .returned (.tuple #[.string ⟨#[]⟩, .string ⟨#[]⟩, .int .i64 0]) ∧ w' = w := by
  have hm : (place : Int).tmod 32 = 0 := by rw [show ((32 : Int)) = ((32 : Nat) : Int) from rfl, ← Int.ofNat_tmod, h0]; rfl
  go_enter Try.func65, Try.ntmps65
  go_wp2_with fail
  go_ret3
  exact ⟨rfl, rfl⟩

theorem parted_in {w : World} {F : Nat → Prop} {q p a b t used : Nat} {R : List ByteArray} {v : Value} {d : Dk} (h : LogAt w F q p a b t R used v) (hd : Disk w F p d) (hoff : d.off = false) (place : Nat) (hp : place ≤ 1048576) (h0 : place % 32 ≠ 0) (hlt : a + place / 32 < d.n) :
    Calls Try.prog 65 #[.pointer (some ⟨q, 0, none⟩), .int .i64 (place : Int)] w fun e w' => e = .returned (.tuple #[.string ((⟨(d.last (a + place / 32)).toArray⟩ : ByteArray).extract 0 (place % 32)), .string ((⟨(d.last (a + place / 32)).toArray⟩ : ByteArray).extract (place % 32) 32), .int .i64 0]) ∧ ∃ m, w' = w.drewN m := by
  have hn := hd.sized.2
  have hm : (place : Int).tmod 32 = ((place % 32 : Nat) : Int) := (Int.ofNat_tmod place 32).symm
  have hdv : (place : Int).tdiv 32 = ((place / 32 : Nat) : Int) := (Int.ofNat_tdiv place 32).symm
  have h0i : (((place % 32 : Nat) : Int) == 0) = false := by simp; omega
  have HR : Hid (∀ m, Calls Try.prog 27 #[.pointer (some ⟨p, 0, none⟩), .int .i64 ((a : Int) + ((place / 32 : Nat) : Int))] (w.drewN m) fun e w' => e = .returned (.tuple #[.string ⟨(d.last (a + place / 32)).toArray⟩, .int .i64 0]) ∧ w' = w.drewN m) := fun m => by
    have := read_is (hd.kept (kept_drewN w m) (fun _ _ z => z)) (a + place / 32) hlt
    rw [hoff, if_neg (by simp)] at this
    exact this
  have hsz : (⟨(d.last (a + place / 32)).toArray⟩ : ByteArray).size = 32 := hd.lastLen _ hlt
  generalize (⟨(d.last (a + place / 32)).toArray⟩ : ByteArray) = x at *
  have c0 := h.c0
  have c1 := h.c1
  have hi : place % 32 < 32 := Nat.mod_lt _ (by omega)
  have hq' : place / 32 ≤ 32768 := by omega
  generalize place % 32 = i at *
  generalize place / 32 = j at *
  have hii : (i : Int) ≤ 32 := by omega
  clear h hd
  go_enter Try.func65, Try.ntmps65
  go_wp2_with fail
  go_quiet (first | with_reducible exact Calls.quiet_of_same (HR.out _))
  have HK : Hid (∃ m, (w.drewN nq).drew = w.drewN m) := ⟨nq + 1, rfl⟩
  generalize w.drewN nq = wd at *
  go_wp2_with fail
  refine wp_region_still_lit (by kernel_rfl) (by kernel_rfl) ?_
  rw [show ({ wd with drawn := wd.drawn + 1 } : World) = wd.drew from rfl]
  iterate 9 still_step
  refine wpStill_nil ?_
  generalize wd.drew = we at *
  go_wp2_with fail
  go_ret3
  exact ⟨rfl, HK.out⟩

/-- A sector ahead of a place, and from there on. -/
def partA (d : Dk) (a place : Nat) : ByteArray := if place % 32 = 0 then ⟨#[]⟩ else (⟨(d.last (a + place / 32)).toArray⟩ : ByteArray).extract 0 (place % 32)
def partB (d : Dk) (a place : Nat) : ByteArray := if place % 32 = 0 then ⟨#[]⟩ else (⟨(d.last (a + place / 32)).toArray⟩ : ByteArray).extract (place % 32) 32
theorem parted_is {w : World} {F : Nat → Prop} {q p a b t used : Nat} {R : List ByteArray} {v : Value} {d : Dk} (h : LogAt w F q p a b t R used v) (hd : Disk w F p d) (hoff : d.off = false) (place : Nat) (hp : place ≤ 1048576) (hlt : place % 32 ≠ 0 → a + place / 32 < d.n) (m : Nat) :
    Calls Try.prog 65 #[.pointer (some ⟨q, 0, none⟩), .int .i64 (place : Int)] (w.drewN m) fun e w' => e = .returned (.tuple #[.string (partA d a place), .string (partB d a place), .int .i64 0]) ∧ ∃ n, w' = w.drewN n := by
  have hk := kept_drewN w m
  unfold partA partB
  by_cases h0 : place % 32 = 0
  · rw [if_pos h0, if_pos h0]
    refine (parted_even q place hp h0).mono ?_
    rintro e w' ⟨rfl, rfl⟩
    exact ⟨rfl, m, rfl⟩
  · rw [if_neg h0, if_neg h0]
    refine (parted_in (h.step hk) (hd.kept hk (fun _ _ z => z)) hoff place hp h0 (hlt h0)).mono ?_
    rintro e w' ⟨rfl, n, rfl⟩
    exact ⟨rfl, m + n, by simp [World.drewN, Nat.add_assoc]⟩
theorem partA_size {w : World} {F : Nat → Prop} {p : Nat} {d : Dk} (hd : Disk w F p d) (a place : Nat) (hlt : place % 32 ≠ 0 → a + place / 32 < d.n) : (partA d a place).size = place % 32 := by
  unfold partA
  split
  · rename_i h; rw [h]; rfl
  · rename_i h
    have := hd.lastLen _ (hlt h)
    have hs : (⟨(d.last (a + place / 32)).toArray⟩ : ByteArray).size = 32 := this
    simp [hs]; omega
theorem partB_size {w : World} {F : Nat → Prop} {p : Nat} {d : Dk} (hd : Disk w F p d) (a place : Nat) (hlt : place % 32 ≠ 0 → a + place / 32 < d.n) : (partB d a place).size = (32 - place % 32) % 32 := by
  unfold partB
  split
  · rename_i h; rw [h]; rfl
  · rename_i h
    have := hd.lastLen _ (hlt h)
    have hs : (⟨(d.last (a + place / 32)).toArray⟩ : ByteArray).size = 32 := this
    simp [hs]; omega

/-- One sector is written. -/
theorem tell_write {w : World} {F : Nat → Prop} {p : Nat} {d : Dk} (hd : Disk w F p d) (N L q : Nat) (hN : w.cell? ⟨N, 0, none⟩ = some (.pointer (some ⟨q, 0, none⟩))) (hq : w.cell? ⟨q, 0, none⟩ = some (.pointer (some ⟨p, 0, none⟩))) (x : ByteArray) (hL : w.cell? ⟨L, 0, none⟩ = some (.string x)) (hLf : w.frozen? ⟨L, 0, none⟩ = false) (hLF : ¬ F L) (hLN : L ≠ N) (hLq : L ≠ q)
    (hx : 32 ≤ x.size) (hxs : x.size ≤ 1048576) (i : Nat) (hi : i < d.n) (hQ : d.Q.length < 1048576) :
    Calls Try.prog 66 #[.int .i64 (i : Int), .pointer (some ⟨L, 0, none⟩), .pointer (some ⟨N, 0, none⟩)] w fun e w' => e = .returned (.int .i64 (if d.on then 0 else 30)) ∧ ∃ F', Disk w' F' p (d.write i (x.extract 0 32).data.toList) ∧ w'.cell? ⟨L, 0, none⟩ = some (.string (x.extract 32 x.size)) ∧ w'.frozen? ⟨L, 0, none⟩ = false ∧ Kept (fun k => F k ∨ k = L) w w' ∧ Grew F F' w := by
  obtain ⟨W, hW⟩ : ∃ W, W = w.setCell ⟨L, 0, none⟩ (.string (x.extract 32 x.size)) := ⟨_, rfl⟩
  have kW : Kept (fun k => k = L) w W := by rw [hW]; exact (Kept.refl (fun k => k = L) w).setCell (p := ⟨L, 0, none⟩) (.inl rfl) _
  have hdW := hd.kept kW (fun k hk z => hLF (z ▸ hk))
  have HWr := (show Hid _ from disk_write hdW i hi (x.extract 0 32) (by simp; omega) hQ)
  have LW : W.cell? ⟨L, 0, none⟩ = some (.string (x.extract 32 x.size)) := by rw [hW]; exact World.cell?_setCell_same _ _ _ hL
  have LfW : W.frozen? ⟨L, 0, none⟩ = false := by rw [hW]; simpa using hLf
  have HW := (show Hid _ from hW)
  have HK : Hid (Kept (fun k => k = L) w W ∧ W.cell? ⟨L, 0, none⟩ = some (.string (x.extract 32 x.size)) ∧ W.frozen? ⟨L, 0, none⟩ = false ∧ ¬ F L ∧ L < W.heap.size) := ⟨kW, LW, LfW, hLF, World.block_lt_of_cell? W _ LW⟩
  have nW := kW.cell hN (fun z => hLN z.symm)
  have qW := kW.cell hq (fun z => hLq z.symm)
  generalize (if d.on = true then (0 : Int) else 30) = code at *
  have hx32 : (32 : Int) ≤ (x.size : Int) := by omega
  rw [hW] at nW qW
  clear hW kW LW LfW hd hdW hN hq
  go_enter Try.func66, Try.ntmps66
  go_wp2_with fail
  rw [← HW.out]
  refine Calls.mono HWr.out ?_; rintro e w2 ⟨rfl, F', k1, k2, k3⟩
  obtain ⟨z1, z2, z3, z4, z5⟩ := HK.out
  have HE : Hid (∃ F', Disk w2 F' p (d.write i (x.extract 0 32).data.toList) ∧ w2.cell? ⟨L, 0, none⟩ = some (.string (x.extract 32 x.size)) ∧ w2.frozen? ⟨L, 0, none⟩ = false ∧ Kept (fun k => F k ∨ k = L) w w2 ∧ Grew F F' w) :=
    ⟨F', k1, k2.cell z2 z4, (World.frozen?_of_block (w := W) (a := ⟨L, 0, none⟩) (k2.block L z5 z4)).trans z3, (z1.mono (fun _ z => .inr z)).trans k2 (fun _ z => .inl (.inl z)), fun k hk => (k3 k hk).imp id (fun z => Nat.le_trans z1.size z)⟩
  clear k1 k2 k3 HWr z1 z2 z3 z4 z5
  go_wp2_with fail
  go_ret
  exact ⟨rfl, HE.out⟩
end Go.Proofs.Ytbjijacpgklegaa
