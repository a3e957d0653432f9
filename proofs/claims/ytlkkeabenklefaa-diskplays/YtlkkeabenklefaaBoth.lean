/- A disk and the document's, side by side. -/
import Derived.Test.YtlkkeabenklefaaRCrash
namespace Go.Proofs.Ytlkkeabenklefaa
open Go.ChangeShapes Go.WideShapes Go.ChangeAt Go.RowKit
set_option linter.unusedVariables false

theorem write_long (v : Value) (n : Nat) (at_ : Int) (s : ByteArray) (w : World) (h : Szd w v n) (hs : s.size ≠ 32) :
    Calls Try.prog 11 #[v, .int .i64 at_, .string s] w fun e w' => e = .returned (.int .i64 1) ∧ w' = w := by
  by_cases ha : 0 ≤ at_ ∧ at_ < (n : Int)
  · have H := (show Hid _ from has_is v n at_ w h)
    rw [decide_eq_true ha] at H
    have hs' : ((s.size : Int) == 32) = false := by simp; omega
    clear h
    go_enter Try.func11, Try.ntmps11
    go_wp2_with fail
    refine Calls.mono H.out ?_; rintro e w1 ⟨rfl, rfl⟩
    go_wp2_with fail
    go_ret
    exact ⟨rfl, rfl⟩
  · exact write_no v n at_ s w h ha

/-- The document's value of a disk d, of blocks apart from F and from NB. -/
structure RV (w : World) (F : Nat → Prop) (NB b c : Nat) (u : Option Addr) (uc : Nat) (f : Int) (d : Dk) : Prop where
  sure : w.ownsRow 0 9 1 (.slice (some ⟨b, 0, none⟩) d.n c) d.n (sv (secs d.n d.S))
  wait : w.ownsRow 0 68 2 (.slice u d.Q.length uc) d.Q.length (d.Q.flatMap wv)
  fb : ¬ F b
  nb : b ≠ NB
  fu : ∀ k, (Value.slice u d.Q.length uc).ownBlock = some k → ¬ F k ∧ k ≠ NB
  on : d.off = false → f = d.fuse
  lo : -1 ≤ f ∧ f ≤ 9223372036854775807

theorem RV.kept {w w' : World} {F F' G : Nat → Prop} {NB b c : Nat} {u : Option Addr} {uc : Nat} {f : Int} {d : Dk} (h : RV w F NB b c u uc f d) (k : Kept G w w') (hb : ¬ G b) (hu : ∀ i, (Value.slice u d.Q.length uc).ownBlock = some i → ¬ G i) (hF : Grew F F' w) : RV w' F' NB b c u uc f d :=
  ⟨ownsRow_kept h.sure (fun i hi => by
      have e : i = b := by simpa [Value.ownBlock] using hi.symm
      subst e
      exact k.block i (h.sure.lt i hi).2 hb), ownsRow_kept h.wait (fun i hi => k.block i (h.wait.lt i hi).2 (hu i hi)),
    fun q => (hF b q).elim h.fb (fun q => by have := (h.sure.lt b rfl).2; omega), h.nb,
    fun i hi => ⟨fun q => (hF i q).elim (h.fu i hi).1 (fun q => by have := (h.wait.lt i hi).2; omega), (h.fu i hi).2⟩, h.on, h.lo⟩

/-- Side by side: the disk dP, and the document's dR. -/
structure Both (E : Nat → Prop) (w0 w : World) (p NB : Nat) (dP dR : Dk) (b c : Nat) (u : Option Addr) (uc : Nat) (f : Int) (F : Nat → Prop) : Prop where
  disk : Disk w F p dP
  ref : RV w F NB b c u uc f dR
  nb : ¬ F NB
  lo : w0.heap.size ≤ NB
  hi : NB < w.heap.size
  bel : Below w0.heap.size w0 w
  own : ∀ k, F k → w0.heap.size ≤ k
  ex : ∀ i, E i → ¬ F i ∧ i < w.heap.size

/-- Some blocks stay. -/
def Stay (E : Nat → Prop) (w w' : World) : Prop := ∀ i, E i → w'.heap[i]? = w.heap[i]?

def Both' (E : Nat → Prop) (w0 w : World) (p NB : Nat) (dP dR : Dk) (b c : Nat) (u : Option Addr) (uc : Nat) (f : Int) : Prop := ∃ F, Both E w0 w p NB dP dR b c u uc f F

theorem Kept.toBelow {F : Nat → Prop} {w0 a b : World} (h : Kept F a b) (hb : Below w0.heap.size w0 a) (hF : ∀ k, F k → w0.heap.size ≤ k) : Below w0.heap.size w0 b := hb.trans (h.below hb.size hF)

/-- A step of the disk's. -/
theorem Both.mine {E : Nat → Prop} {w0 w w' : World} {p NB : Nat} {dP dP' dR : Dk} {b c : Nat} {u : Option Addr} {uc : Nat} {f : Int} {F F' : Nat → Prop} (h : Both E w0 w p NB dP dR b c u uc f F) (hd : Disk w' F' p dP') (k : Kept F w w') (g : Grew F F' w) : Both E w0 w' p NB dP' dR b c u uc f F' :=
  ⟨hd, h.ref.kept k h.ref.fb (fun i hi => (h.ref.fu i hi).1) g, fun q => (g NB q).elim h.nb (fun q => by have := h.hi; omega), h.lo, Nat.lt_of_lt_of_le h.hi k.size, k.toBelow h.bel h.own, fun i hi => (g i hi).elim (h.own i) (fun q => Nat.le_trans h.bel.size q), fun i hi => ⟨fun q => (g i q).elim (h.ex i hi).1 (fun q => by have := (h.ex i hi).2; omega), Nat.lt_of_lt_of_le (h.ex i hi).2 k.size⟩⟩
theorem Both.stay {E : Nat → Prop} {w0 w w' : World} {p NB : Nat} {dP dR : Dk} {b c : Nat} {u : Option Addr} {uc : Nat} {f : Int} {F : Nat → Prop} (h : Both E w0 w p NB dP dR b c u uc f F) (k : Kept F w w') : Stay E w w' := fun i hi => k.block i (h.ex i hi).2 (h.ex i hi).1
/-- A step that changes nothing. -/
theorem Both.step {E : Nat → Prop} {w0 w w' : World} {p NB : Nat} {dP dR : Dk} {b c : Nat} {u : Option Addr} {uc : Nat} {f : Int} {F : Nat → Prop} (h : Both E w0 w p NB dP dR b c u uc f F) (k : Kept (fun _ => False) w w') : Both E w0 w' p NB dP dR b c u uc f F :=
  h.mine (h.disk.kept k (fun _ _ q => q)) (k.mono (fun _ q => q.elim)) (fun _ q => .inl q)
theorem Both'.step {E : Nat → Prop} {w0 w w' : World} {p NB : Nat} {dP dR : Dk} {b c : Nat} {u : Option Addr} {uc : Nat} {f : Int} (h : Both' E w0 w p NB dP dR b c u uc f) (k : Kept (fun _ => False) w w') : Both' E w0 w' p NB dP dR b c u uc f := by
  obtain ⟨F, h⟩ := h
  exact ⟨F, h.step k⟩
/-- What the document's answer is put into. -/
theorem Both'.store {E : Nat → Prop} {w0 w : World} {p NB : Nat} {dP dR : Dk} {b c : Nat} {u : Option Addr} {uc : Nat} {f : Int} (h : Both' E w0 w p NB dP dR b c u uc f) {w' : World} (k : Kept (fun i => i = NB) w w') : Both' E w0 w' p NB dP dR b c u uc f := by
  obtain ⟨F, h⟩ := h
  have hlt := h.hi
  refine ⟨F, h.disk.kept k (fun i hi q => h.nb (q ▸ hi)), h.ref.kept k (fun q => h.ref.nb q) (fun i hi q => (h.ref.fu i hi).2 q) (fun _ q => .inl q), h.nb, h.lo, Nat.lt_of_lt_of_le h.hi k.size, k.toBelow h.bel (fun i hi => by rw [hi]; exact h.lo), h.own, fun i hi => ⟨(h.ex i hi).1, Nat.lt_of_lt_of_le (h.ex i hi).2 k.size⟩⟩

theorem Both'.alloc {E : Nat → Prop} {w0 w : World} {p NB : Nat} {dP dR : Dk} {b c : Nat} {u : Option Addr} {uc : Nat} {f : Int} (h : Both' E w0 w p NB dP dR b c u uc f) (o : Obj) : Both' (fun i => E i ∨ i = w.heap.size) w0 (w.alloc o) p NB dP dR b c u uc f := by
  obtain ⟨F, h⟩ := h
  have hs := h.step ((Kept.refl _ w).alloc o)
  refine ⟨F, hs.disk, hs.ref, hs.nb, hs.lo, hs.hi, hs.bel, hs.own, fun i hi => ?_⟩
  rcases hi with hi | rfl
  · exact hs.ex i hi
  · exact ⟨fun q => by have := h.disk.bound _ q; omega, by simp⟩
theorem Both'.mono {E E' : Nat → Prop} {w0 w : World} {p NB : Nat} {dP dR : Dk} {b c : Nat} {u : Option Addr} {uc : Nat} {f : Int} (h : Both' E w0 w p NB dP dR b c u uc f) (hE : ∀ i, E' i → E i) : Both' E' w0 w p NB dP dR b c u uc f := by
  obtain ⟨F, h⟩ := h
  exact ⟨F, h.disk, h.ref, h.nb, h.lo, h.hi, h.bel, h.own, fun i hi => h.ex i (hE i hi)⟩
theorem Stay.cell {E : Nat → Prop} {w w' : World} (h : Stay E w w') {i j : Nat} {v : Value} (hi : E i) (hc : w.cell? ⟨i, j, none⟩ = some v) : w'.cell? ⟨i, j, none⟩ = some v :=
  (World.cell?_of_block (w := w) (a := ⟨i, j, none⟩) (h i hi)).trans hc
theorem Stay.box {E : Nat → Prop} {w w' : World} (h : Stay E w w') {N : Nat} {v0 v1 : Value} {f : Int} {off : Bool} (hi : E N) (hb : Box w N v0 v1 f off) : Box w' N v0 v1 f off :=
  ⟨h.cell hi hb.c0, h.cell hi hb.c1, h.cell hi hb.c2, h.cell hi hb.c3, fun j => (World.frozen?_of_block (w := w) (a := ⟨N, j, none⟩) (h N hi)).trans (hb.fz j)⟩

/-- What Write answers, and what is behind it. -/
def wbad (d : Dk) (x : Int) (s : ByteArray) : Prop := x < 0 ∨ (d.n : Int) ≤ x ∨ s.size ≠ 32
instance (d : Dk) (x : Int) (s : ByteArray) : Decidable (wbad d x s) := by unfold wbad; infer_instance
def wcode (d : Dk) (x : Int) (s : ByteArray) : Int := if wbad d x s then 1 else if d.on then 0 else 30
def wres (d : Dk) (x : Int) (s : ByteArray) : Dk := if wbad d x s then d else d.write x.toNat s.data.toList

theorem both_write {E : Nat → Prop} {w0 w : World} {p NB : Nat} {dP dR : Dk} {b c : Nat} {u : Option Addr} {uc : Nat} {f : Int} (h : Both' E w0 w p NB dP dR b c u uc f) (x : Int) (s : ByteArray) (hn : dP.Q.length < 1048576) :
    Calls Try.prog 11 #[.pointer (some ⟨p, 0, none⟩), .int .i64 x, .string s] w fun e w' => e = .returned (.int .i64 (wcode dP x s)) ∧ Both' E w0 w' p NB (wres dP x s) dR b c u uc f ∧ Stay E w w' := by
  obtain ⟨F, h⟩ := h
  unfold wcode wres
  by_cases hb : wbad dP x s
  · rw [if_pos hb, if_pos hb]
    have H : Calls Try.prog 11 #[.pointer (some ⟨p, 0, none⟩), .int .i64 x, .string s] w fun e w' => e = .returned (.int .i64 1) ∧ w' = w := by
      by_cases hs : s.size = 32
      · exact write_no _ dP.n x s w h.disk.szd (fun q => by rcases hb with hb | hb | hb; omega; omega; exact hb hs)
      · exact write_long _ dP.n x s w h.disk.szd hs
    refine H.mono ?_
    rintro e w' ⟨rfl, rfl⟩
    exact ⟨rfl, ⟨F, h⟩, fun _ _ => rfl⟩
  · rw [if_neg hb, if_neg hb]
    obtain ⟨a, rfl⟩ : ∃ a : Nat, x = (a : Int) := ⟨x.toNat, by unfold wbad at hb; omega⟩
    have ha : a < dP.n := by unfold wbad at hb; omega
    have hs : s.size = 32 := by unfold wbad at hb; omega
    refine (disk_write h.disk a ha s hs hn).mono ?_
    rintro e w' ⟨rfl, F', k1, k2, k3⟩
    exact ⟨rfl, ⟨F', h.mine k1 k2 k3⟩, h.stay k2⟩

theorem on_same {f g : Int} {off : Bool} (h : off = false → f = g) : (rburn f off).2.2 = (burn g off).2.2 ∧ ((rburn f off).2.1 = (burn g off).2.1) ∧ ((burn g off).2.1 = false → (rburn f off).1 = (burn g off).1) := by
  unfold rburn burn
  cases off with
  | true => simp; split <;> simp
  | false =>
    have := h rfl
    subst this
    by_cases e : f = 0
    · simp [e]
    · simp [e]
theorem rburn_lo {f : Int} {off : Bool} (h : -1 ≤ f ∧ f ≤ 9223372036854775807) : -1 ≤ (rburn f off).1 ∧ (rburn f off).1 ≤ 9223372036854775807 := by
  unfold rburn
  split
  · simp
  · simp only; split <;> omega

theorem burnt_off {d : Dk} {f : Int} (h : d.off = false → f = d.fuse) : (rburn f d.off).2.2 = d.on ∧ (rburn f d.off).2.1 = d.burnt.off ∧ (d.burnt.off = false → (rburn f d.off).1 = d.burnt.fuse) := on_same h
theorem rburn_two (f : Int) (off : Bool) : (rburn f off).2.1 = !(rburn f off).2.2 := by
  unfold rburn
  split <;> rfl

theorem both_rwrite {E : Nat → Prop} {w0 w : World} {p NB : Nat} {dP d : Dk} {b c : Nat} {u : Option Addr} {uc : Nat} {f : Int} (h : Both' E w0 w p NB dP d b c u uc f) (x : Int) (s : ByteArray) (hn : d.Q.length < 1048576) :
    Calls Try.prog 12 #[.agg #[.slice (some ⟨b, 0, none⟩) d.n c, .slice u d.Q.length uc, .int .i64 f, .bool d.off], .int .i64 x, .string s] w fun e w' =>
      ∃ u' uc' f', e = .returned (.tuple #[.agg #[.slice (some ⟨b, 0, none⟩) d.n c, .slice u' (wres d x s).Q.length uc', .int .i64 f', .bool (wres d x s).off], .int .i64 (wcode d x s)]) ∧ Both' E w0 w' p NB dP (wres d x s) b c u' uc' f' ∧ Kept (fun _ => False) w w' := by
  obtain ⟨F, h⟩ := h
  unfold wcode wres
  by_cases hb : wbad d x s
  · rw [if_pos hb, if_pos hb]
    refine (ref_write_no (some ⟨b, 0, none⟩) u d.n c d.Q.length uc f d.off x s hb w).mono ?_
    rintro e w' ⟨rfl, k⟩
    exact ⟨u, uc, f, rfl, ⟨F, h.step k⟩, k⟩
  · rw [if_neg hb, if_neg hb]
    obtain ⟨a, rfl⟩ : ∃ a : Nat, x = (a : Int) := ⟨x.toNat, by unfold wbad at hb; omega⟩
    have ha : a < d.n := by unfold wbad at hb; omega
    have hs : s.size = 32 := by unfold wbad at hb; omega
    obtain ⟨e1, e2, e3⟩ := burnt_off h.ref.on
    have e4 := rburn_two f d.off
    unfold Dk.write
    cases ho : d.on with
    | false =>
      rw [ho] at e1
      rw [e1] at e4
      rw [e4] at e2
      refine (ref_write_off (some ⟨b, 0, none⟩) u d.n c d.Q.length uc f d.off a ha s hs e1 h.ref.lo w).mono ?_
      rintro e w' ⟨rfl, k⟩
      have hB := h.step k
      refine ⟨u, uc, -1, ?_, ⟨F, ⟨hB.disk, ⟨hB.ref.sure, hB.ref.wait, hB.ref.fb, hB.ref.nb, hB.ref.fu, fun q => ?_, by omega⟩, hB.nb, hB.lo, hB.hi, hB.bel, hB.own, hB.ex⟩⟩, k⟩
      · show _ = Ending.returned (.tuple #[.agg #[_, _, _, .bool d.burnt.off], _])
        rw [← e2]
        rfl
      · have : d.burnt.off = false := q
        rw [← e2] at this
        cases this
    | true =>
      rw [ho] at e1
      rw [e1] at e4
      rw [e4] at e2
      refine (ref_write_on (some ⟨b, 0, none⟩) u d.n c uc f d.off d.Q h.ref.wait (by omega) a ha s hs e1 h.ref.lo).mono ?_
      rintro e w' ⟨o, k', rfl, ow, k⟩
      have hB := h.step k
      have hl : (d.Q ++ [(a, s.data.toList)]).length = d.Q.length + 1 := by simp
      refine ⟨o, k', (rburn f d.off).1, ?_, ⟨F, ⟨hB.disk, ⟨hB.ref.sure, ?_, hB.ref.fb, hB.ref.nb, ?_, fun q => e3 q, rburn_lo h.ref.lo⟩, hB.nb, hB.lo, hB.hi, hB.bel, hB.own, hB.ex⟩⟩, k⟩
      · show _ = Ending.returned (.tuple #[.agg #[_, .slice o (d.Q ++ [(a, s.data.toList)]).length k', _, .bool d.burnt.off], _])
        rw [← e2, hl]
        rfl
      · show w'.ownsRow 0 68 2 (.slice o (d.Q ++ [(a, s.data.toList)]).length k') (d.Q ++ [(a, s.data.toList)]).length _
        rw [hl]
        exact own_weak ow (Nat.zero_le _)
      · intro i hi
        have h1 := (ow.lt i (by simpa [Value.ownBlock] using hi)).1
        have h2 := h.hi
        exact ⟨fun q => by have := h.disk.bound i q; omega, by omega⟩

/-- What Read answers. -/
def rbad (d : Dk) (x : Int) : Prop := x < 0 ∨ (d.n : Int) ≤ x
instance (d : Dk) (x : Int) : Decidable (rbad d x) := by unfold rbad; infer_instance
def rtext (d : Dk) (x : Int) : ByteArray := if rbad d x then ⟨#[]⟩ else if d.off then ⟨#[]⟩ else ⟨(d.last x.toNat).toArray⟩
def rcode (d : Dk) (x : Int) : Int := if rbad d x then 1 else if d.off then 30 else 0

theorem both_read {E : Nat → Prop} {w0 w : World} {p NB : Nat} {d dR : Dk} {b c : Nat} {u : Option Addr} {uc : Nat} {f : Int} (h : Both' E w0 w p NB d dR b c u uc f) (x : Int) :
    Calls Try.prog 13 #[.pointer (some ⟨p, 0, none⟩), .int .i64 x] w fun e w' => e = .returned (.tuple #[.string (rtext d x), .int .i64 (rcode d x)]) ∧ w' = w := by
  obtain ⟨F, h⟩ := h
  unfold rtext rcode
  by_cases hb : rbad d x
  · rw [if_pos hb, if_pos hb]
    exact read_no _ d.n x w h.disk.szd (fun q => by unfold rbad at hb; omega)
  · rw [if_neg hb, if_neg hb]
    obtain ⟨a, rfl⟩ : ∃ a : Nat, x = (a : Int) := ⟨x.toNat, by unfold rbad at hb; omega⟩
    have := read_is h.disk a (by unfold rbad at hb; omega)
    rw [Int.toNat_natCast]
    cases ho : d.off with
    | true => rw [ho] at this; exact this
    | false => rw [ho] at this; exact this

theorem both_rread {E : Nat → Prop} {w0 w : World} {p NB : Nat} {dP d : Dk} {b c : Nat} {u : Option Addr} {uc : Nat} {f : Int} (h : Both' E w0 w p NB dP d b c u uc f) (x : Int) (hn : d.Q.length ≤ 1048576) :
    Calls Try.prog 14 #[.agg #[.slice (some ⟨b, 0, none⟩) d.n c, .slice u d.Q.length uc, .int .i64 f, .bool d.off], .int .i64 x] w fun e w' => e = .returned (.tuple #[.string (rtext d x), .int .i64 (rcode d x)]) ∧ Kept (fun _ => False) w w' := by
  obtain ⟨F, h⟩ := h
  unfold rtext rcode
  by_cases hb : rbad d x
  · rw [if_pos hb, if_pos hb]
    exact ref_read_no (some ⟨b, 0, none⟩) u d.n c d.Q.length uc f d.off x hb w
  · rw [if_neg hb, if_neg hb]
    obtain ⟨a, rfl⟩ : ∃ a : Nat, x = (a : Int) := ⟨x.toNat, by unfold rbad at hb; omega⟩
    have ha : a < d.n := by unfold rbad at hb; omega
    rw [Int.toNat_natCast]
    cases ho : d.off with
    | true => exact ref_read_off (some ⟨b, 0, none⟩) u d.n c d.Q.length uc f a ha w
    | false => exact ref_read_on b u d.n c uc f d.S d.Q h.ref.wait hn a ha (sec_at h.ref.sure a ha)

theorem both_flush {E : Nat → Prop} {w0 w : World} {p NB : Nat} {dP dR : Dk} {b c : Nat} {u : Option Addr} {uc : Nat} {f : Int} (h : Both' E w0 w p NB dP dR b c u uc f) (hn : dP.Q.length ≤ 1048576) :
    Calls Try.prog 15 #[.pointer (some ⟨p, 0, none⟩)] w fun e w' => e = .returned (.int .i64 (if dP.on then 0 else 30)) ∧ Both' E w0 w' p NB dP.flush dR b c u uc f ∧ Stay E w w' := by
  obtain ⟨F, h⟩ := h
  refine (disk_flush h.disk hn).mono ?_
  rintro e w' ⟨rfl, k1, k2⟩
  exact ⟨rfl, ⟨F, h.mine k1 k2 (fun _ q => .inl q)⟩, h.stay k2⟩

theorem Disk.parts {w : World} {F : Nat → Prop} {p : Nat} {d : Dk} (h : Disk w F p d) : (∀ q, q ∈ d.Q → q.1 < d.n ∧ q.2.length = 32) ∧ ∀ i, i < d.n → (d.S i).length = 32 := by
  obtain ⟨bs, bl, v, h⟩ := h
  exact ⟨h.qs, h.sure.len⟩

theorem both_rflush {E : Nat → Prop} {w0 w : World} {p NB : Nat} {dP d : Dk} {b c : Nat} {u : Option Addr} {uc : Nat} {f : Int} (h : Both' E w0 w p NB dP d b c u uc f) (hn : d.Q.length ≤ 1048576) (hq : ∀ q, q ∈ d.Q → q.1 < d.n) (h4 : d.n ≤ 4096) :
    Calls Try.prog 16 #[.agg #[.slice (some ⟨b, 0, none⟩) d.n c, .slice u d.Q.length uc, .int .i64 f, .bool d.off]] w fun e w' =>
      ∃ b' c' u' uc' f', e = .returned (.tuple #[.agg #[.slice (some ⟨b', 0, none⟩) d.n c', .slice u' d.flush.Q.length uc', .int .i64 f', .bool d.flush.off], .int .i64 (if d.on then 0 else 30)]) ∧ Both' E w0 w' p NB dP d.flush b' c' u' uc' f' ∧ Kept (fun _ => False) w w' := by
  obtain ⟨F, h⟩ := h
  obtain ⟨e1, e2, e3⟩ := burnt_off h.ref.on
  have e4 := rburn_two f d.off
  unfold Dk.flush
  cases ho : d.on with
  | false =>
    rw [ho] at e1
    rw [e1] at e4
    rw [e4] at e2
    refine (ref_flush_off (some ⟨b, 0, none⟩) u d.n c d.Q.length uc f d.off e1 h.ref.lo w).mono ?_
    rintro e w' ⟨rfl, k⟩
    have hB := h.step k
    refine ⟨b, c, u, uc, -1, ?_, ⟨F, ⟨hB.disk, ⟨hB.ref.sure, hB.ref.wait, hB.ref.fb, hB.ref.nb, hB.ref.fu, fun q => ?_, by omega⟩, hB.nb, hB.lo, hB.hi, hB.bel, hB.own, hB.ex⟩⟩, k⟩
    · show _ = Ending.returned (.tuple #[.agg #[_, _, _, .bool d.burnt.off], _])
      rw [← e2]
      rfl
    · have : d.burnt.off = false := q
      rw [← e2] at this
      cases this
  | true =>
    rw [ho] at e1
    rw [e1] at e4
    rw [e4] at e2
    refine (ref_flush_on b u d.n c uc f d.off d.S d.Q h.ref.sure h.ref.wait hn hq h4 e1 h.ref.lo).mono ?_
    rintro e w' ⟨b', c', rfl, ow, hb', k⟩
    have hB := h.step k
    refine ⟨b', c', none, 0, (rburn f d.off).1, ?_, ⟨F, ⟨hB.disk, ⟨ow, World.ownsRow_nil w' 0 68 2, ?_, ?_, fun i hi => (by cases hi), fun q => e3 q, rburn_lo h.ref.lo⟩, hB.nb, hB.lo, hB.hi, hB.bel, hB.own, hB.ex⟩⟩, k⟩
    · show _ = Ending.returned (.tuple #[.agg #[_, _, _, .bool d.burnt.off], _])
      rw [← e2]
      rfl
    · rcases hb' with rfl | hb'
      · exact h.ref.fb
      · exact fun q => by have := h.disk.bound b' q; omega
    · rcases hb' with rfl | hb'
      · exact h.ref.nb
      · have := h.hi; omega

theorem both_fuse {E : Nat → Prop} {w0 w : World} {p NB : Nat} {dP dR : Dk} {b c : Nat} {u : Option Addr} {uc : Nat} {f : Int} (h : Both' E w0 w p NB dP dR b c u uc f) (x : Int) (hn : x ≤ 9223372036854775807) :
    Calls Try.prog 17 #[.pointer (some ⟨p, 0, none⟩), .int .i64 x] w fun e w' => e = .returned (.int .i64 0) ∧ Both' E w0 w' p NB (dP.setFuse x) dR b c u uc f ∧ Stay E w w' := by
  obtain ⟨F, h⟩ := h
  refine (disk_fuse h.disk x hn).mono ?_
  rintro e w' ⟨rfl, k1, k2⟩
  exact ⟨rfl, ⟨F, h.mine k1 k2 (fun _ q => .inl q)⟩, h.stay k2⟩

theorem both_rfuse {E : Nat → Prop} {w0 w : World} {p NB : Nat} {dP d : Dk} {b c : Nat} {u : Option Addr} {uc : Nat} {f : Int} (h : Both' E w0 w p NB dP d b c u uc f) (x : Int) (hn : x ≤ 9223372036854775807) :
    Calls Try.prog 18 #[.agg #[.slice (some ⟨b, 0, none⟩) d.n c, .slice u d.Q.length uc, .int .i64 f, .bool d.off], .int .i64 x] w fun e w' =>
      e = .returned (.agg #[.slice (some ⟨b, 0, none⟩) d.n c, .slice u d.Q.length uc, .int .i64 (max x (-1)), .bool d.off]) ∧ Both' E w0 w' p NB dP (d.setFuse x) b c u uc (max x (-1)) ∧ Kept (fun _ => False) w w' := by
  obtain ⟨F, h⟩ := h
  refine (ref_fuse (some ⟨b, 0, none⟩) u d.n c d.Q.length uc f d.off x w).mono ?_
  rintro e w' ⟨rfl, k⟩
  have hB := h.step k
  exact ⟨rfl, ⟨F, ⟨hB.disk, ⟨hB.ref.sure, hB.ref.wait, hB.ref.fb, hB.ref.nb, hB.ref.fu, fun _ => rfl, by omega⟩, hB.nb, hB.lo, hB.hi, hB.bel, hB.own, hB.ex⟩⟩, k⟩

theorem ints_kept {w w' : World} {v : Value} {ks : List Int} {B : Nat} (h : Ints w v ks) (k : Below w.heap.size w w') : Ints w' v ks := by
  rcases h with h | ⟨b, o, c, e, h⟩
  · exact .inl h
  · exact .inr ⟨b, o, c, e, fun j hj => (k.cell (World.block_lt_of_cell? w _ (h j hj))).trans (h j hj)⟩

theorem both_crash {E : Nat → Prop} {w0 w : World} {p NB : Nat} {dP dR : Dk} {b c : Nat} {u : Option Addr} {uc : Nat} {f : Int} (h : Both' E w0 w p NB dP dR b c u uc f) (hn : dP.Q.length ≤ 1048576) (v : Value) (ks : List Int) (hu : Ints w0 v ks) (hk : ks.length ≤ 9223372036854775807) :
    Calls Try.prog 19 #[.pointer (some ⟨p, 0, none⟩), v] w fun e w' => e = .returned (.int .i64 0) ∧ Both' E w0 w' p NB (dP.crash ks) dR b c u uc f ∧ Stay E w w' := by
  obtain ⟨F, h⟩ := h
  have hu1 : Ints w v ks := ints_kept (B := 0) hu h.bel
  rcases hu with ⟨a, c', rfl, rfl⟩ | ⟨b', o', c', rfl, hc⟩
  · obtain ⟨bs, bl, v, hl⟩ := h.disk
    refine (crash_zero hl hn a 0 c' (.inl rfl)).mono ?_
    rintro e w' ⟨rfl, v', k1, k2⟩
    have e1 : settled dP.S dP.last dP.Q = Dk.last { dP with Q := [], fuse := -1, off := false } := by
      have := settle_torn dP.S dP.Q []
      simp only [List.zip_nil_right] at this
      exact this
    rw [e1] at k1
    have e2 : dP.crash [] = { dP with Q := [], fuse := -1, off := false } := by unfold Dk.crash; rw [List.zip_nil_right]; rfl
    rw [e2]
    exact ⟨rfl, ⟨F, h.mine ⟨bs, bl, v', k1⟩ k2 (fun _ q => .inl q)⟩, h.stay k2⟩
  · by_cases hz : ks = []
    · subst hz
      obtain ⟨bs, bl, v, hl⟩ := h.disk
      refine (crash_zero hl hn _ 0 c' (.inl rfl)).mono ?_
      rintro e w' ⟨rfl, v', k1, k2⟩
      have e1 : settled dP.S dP.last dP.Q = Dk.last { dP with Q := [], fuse := -1, off := false } := by
        have := settle_torn dP.S dP.Q []
        simp only [List.zip_nil_right] at this
        exact this
      rw [e1] at k1
      have e2 : dP.crash [] = { dP with Q := [], fuse := -1, off := false } := by unfold Dk.crash; rw [List.zip_nil_right]; rfl
      rw [e2]
      exact ⟨rfl, ⟨F, h.mine ⟨bs, bl, v', k1⟩ k2 (fun _ q => .inl q)⟩, h.stay k2⟩
    · have hlt : b' < w0.heap.size := World.block_lt_of_cell? w0 _ (hc 0 (List.length_pos_iff.2 hz))
      refine (disk_crash h.disk hn _ ks hu1 (fun a n c e q => by cases e; have := h.own b' q; omega) hk).mono ?_
      rintro e w' ⟨rfl, k1, k2⟩
      exact ⟨rfl, ⟨F, h.mine k1 k2 (fun _ q => .inl q)⟩, h.stay k2⟩

theorem both_rcrash {E : Nat → Prop} {w0 w : World} {p NB : Nat} {dP d : Dk} {b c : Nat} {u : Option Addr} {uc : Nat} {f : Int} (h : Both' E w0 w p NB dP d b c u uc f) (hn : d.Q.length ≤ 1048576) (hq : ∀ q, q ∈ d.Q → q.1 < d.n ∧ q.2.length = 32) (hS : ∀ i, i < d.n → (d.S i).length = 32) (h4 : d.n ≤ 4096) (ao : Option Addr) (ac : Nat) (ks : List Int) (hu : Ints w0 (.slice ao ks.length ac) ks) (hk : ks.length ≤ 9223372036854775807) :
    Calls Try.prog 20 #[.agg #[.slice (some ⟨b, 0, none⟩) d.n c, .slice u d.Q.length uc, .int .i64 f, .bool d.off], .slice ao ks.length ac] w fun e w' =>
      ∃ b' c', e = .returned (.agg #[.slice (some ⟨b', 0, none⟩) d.n c', .slice none 0 0, .int .i64 (-1), .bool false]) ∧ Both' E w0 w' p NB dP (d.crash ks) b' c' none 0 (-1) ∧ Kept (fun _ => False) w w' := by
  obtain ⟨F, h⟩ := h
  refine (ref_crash b u d.n c uc f d.off d.S d.Q h.ref.sure h.ref.wait hn hq hS h4 ao ac ks (ints_kept (B := 0) hu h.bel) hk).mono ?_
  rintro e w' ⟨b', c', rfl, ow, hb', k⟩
  have hB := h.step k
  refine ⟨b', c', rfl, ⟨F, ⟨hB.disk, ⟨ow, World.ownsRow_nil w' 0 68 2, ?_, ?_, fun i hi => (by cases hi), fun _ => rfl, by omega⟩, hB.nb, hB.lo, hB.hi, hB.bel, hB.own, hB.ex⟩⟩, k⟩
  · rcases hb' with rfl | hb'
    · exact h.ref.fb
    · exact fun q => by have := h.disk.bound b' q; omega
  · rcases hb' with rfl | hb'
    · exact h.ref.nb
    · have := h.hi; omega
end Go.Proofs.Ytlkkeabenklefaa
