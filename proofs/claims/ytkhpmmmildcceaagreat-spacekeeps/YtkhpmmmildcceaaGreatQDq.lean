/- Disks that have power: pure. A space on its disk, whole. -/
import Derived.Test.YtkhpmmmildcceaaGreatQCo
import Derived.Test.YtkhpmmmildcceaaGreatQSp
namespace Go.Proofs.YtkhpmmmildcceaaGreat
open Go.ChangeShapes Go.WideShapes Go.ChangeAt Go.RowKit
set_option linter.unusedVariables false
set_option maxRecDepth 100000

/-- A disk whose power stays. -/
def OkD (d : Dk) : Prop := d.fuse = -1 ∧ d.off = false
theorem OkD.on {d : Dk} (h : OkD d) : d.on = true := by
  unfold Dk.on burn
  rw [h.1, h.2]
  rfl
theorem OkD.burnt {d : Dk} (h : OkD d) : d.burnt = d := by
  unfold Dk.burnt burn
  obtain ⟨n, S, Q, f, o⟩ := d
  obtain ⟨h1, h2⟩ := h
  simp only at h1 h2
  subst h1 h2
  rfl
theorem OkD.write_eq {d : Dk} (h : OkD d) (a : Nat) (t : List UInt8) : d.write a t = { d with Q := d.Q ++ [(a, t)] } := by
  unfold Dk.write
  rw [if_pos h.on, h.burnt]
theorem OkD.flush_eq {d : Dk} (h : OkD d) : d.flush = { d with S := flushed d.S d.Q, Q := [] } := by
  unfold Dk.flush
  rw [if_pos h.on, h.burnt]
theorem OkD.write {d : Dk} (h : OkD d) (a : Nat) (t : List UInt8) : OkD (d.write a t) := by rw [h.write_eq]; exact h
theorem OkD.flush {d : Dk} (h : OkD d) : OkD d.flush := by rw [h.flush_eq]; exact h
theorem OkD.last_wr {d : Dk} (h : OkD d) (a : Nat) (t : List UInt8) (i : Nat) : (d.write a t).last i = if i = a then t else d.last i := by
  rw [h.write_eq]
  show behind (d.S i) i (d.Q ++ [(a, t)]) = _
  unfold behind
  rw [List.foldl_append]
  show (if a = i then t else behind (d.S i) i d.Q) = _
  by_cases c : a = i
  · rw [if_pos c, if_pos c.symm]
  · rw [if_neg c, if_neg (fun e => c e.symm)]
    rfl
theorem OkD.sure_fl {d : Dk} (h : OkD d) (i : Nat) : d.flush.S i = d.last i := by
  rw [h.flush_eq]
  exact flushed_at _ _ _
theorem OkD.last_fl {d : Dk} (h : OkD d) (i : Nat) : d.flush.last i = d.last i := by
  have := h.sure_fl i
  rw [h.flush_eq] at this ⊢
  exact this
theorem OkD.wrP {d : Dk} (h : OkD d) (a : Nat) (l : List UInt8) : ∀ k, OkD (wrP d a l k)
  | 0 => h
  | k + 1 => (OkD.wrP h a l k).write _ _
theorem OkD.onP {d : Dk} (h : OkD d) (a : Nat) (l : List UInt8) (k : Nat) : onP d a l k := fun j _ => (h.wrP a l j).on
theorem OkD.last_wrP {d : Dk} (h : OkD d) (a : Nat) (l : List UInt8) (i : Nat) : ∀ k, (Go.Proofs.YtkhpmmmildcceaaGreat.wrP d a l k).last i = if a ≤ i ∧ i < a + k then sec l (i - a) else d.last i
  | 0 => by
    rw [if_neg (by omega)]
    rfl
  | k + 1 => by
    show ((Go.Proofs.YtkhpmmmildcceaaGreat.wrP d a l k).write (a + k) (sec l k)).last i = _
    rw [(h.wrP a l k).last_wr, OkD.last_wrP h a l i k]
    by_cases c : i = a + k
    · rw [if_pos c, if_pos (by omega), c]
      congr 1
      omega
    · rw [if_neg c]
      by_cases c2 : a ≤ i ∧ i < a + k
      · rw [if_pos c2, if_pos (by omega)]
      · rw [if_neg c2, if_neg (by omega)]
theorem OkD.putH_eq {d : Dk} (h : OkD d) (a : Nat) (l : List UInt8) : putH d a l = (d.write a l).flush := by unfold putH; rw [if_pos h.on]
theorem OkD.putE_eq {d : Dk} (h : OkD d) (a : Nat) (l : List UInt8) : putE d a l = 0 := by unfold putE; rw [if_pos h.on, if_pos (h.write a l).on]
theorem OkD.putH {d : Dk} (h : OkD d) (a : Nat) (l : List UInt8) : OkD (putH d a l) := by rw [h.putH_eq]; exact (h.write a l).flush
theorem OkD.last_putH {d : Dk} (h : OkD d) (a : Nat) (l : List UInt8) (i : Nat) : (Go.Proofs.YtkhpmmmildcceaaGreat.putH d a l).last i = if i = a then l else d.last i := by
  rw [h.putH_eq, (h.write a l).last_fl, h.last_wr]
/-- A map and its head are laid. -/
theorem OkD.lay {d : Dk} (h : OkD d) {fr tn : Nat} {l : List UInt8} {er : Int} {dd : Dk} (hl : LayS d fr tn l er dd) : er = 0 ∧ OkD dd ∧ dd.n = d.n ∧ dd.Q = [] ∧ (∀ i, dd.last i = if i = fr + tn % 2 then headB tn l else if fr + (1 + tn % 2) * 8 ≤ i ∧ i < fr + (1 + tn % 2) * 8 + 8 then sec l (i - (fr + (1 + tn % 2) * 8)) else d.last i) := by
  have h1 := h.putH (fr + tn % 2) (List.replicate 32 (0 : UInt8))
  have h2 := h1.wrP (fr + (1 + tn % 2) * 8) l 8
  unfold LayS at hl
  rcases hl with ⟨z, _⟩ | ⟨_, ⟨k, _, _, z, _⟩ | ⟨_, ⟨z, _⟩ | ⟨_, e1, e2⟩⟩⟩
  · rw [h.putE_eq] at z
    cases z
  · rw [(h1.wrP _ _ _).on] at z
    cases z
  · rw [h2.on] at z
    cases z
  · rw [h2.flush.putE_eq] at e1
    subst e2
    refine ⟨e1, h2.flush.putH _ _, by rw [putH_n, flush_n, wrP_n, putH_n], by rw [h2.flush.putH_eq, (h2.flush.write _ _).flush_eq], fun i => ?_⟩
    rw [h2.flush.last_putH, h2.last_fl, h1.last_wrP, h.last_putH]
    by_cases c : i = fr + tn % 2
    · rw [if_pos c, if_pos c]
    · rw [if_neg c, if_neg c, if_neg c]
theorem OkD.crash0 {d : Dk} (h : OkD d) (hq : d.Q = []) (ks : List Int) : OkD (d.crash ks) ∧ (d.crash ks).n = d.n ∧ (d.crash ks).Q = [] ∧ ∀ i, (d.crash ks).last i = d.last i := by
  refine ⟨⟨rfl, rfl⟩, rfl, rfl, fun i => ?_⟩
  show torn d.S (d.Q.zip ks) i = behind (d.S i) i d.Q
  rw [hq]
  rfl
theorem rdP_take {d : Dk} {a : Nat} {l : List UInt8} : ∀ k, (∀ j, j < k → d.last (a + j) = sec l j) → rdP d a k = l.take (32 * k)
  | 0, _ => by rfl
  | k + 1, h => by
    show rdP d a k ++ d.last (a + k) = _
    rw [rdP_take k (fun j hj => h j (by omega)), h k (by omega)]
    unfold sec
    rw [show 32 * (k + 1) = 32 * k + 32 by omega, List.take_add, Nat.mul_comm k 32]
theorem rdP_all {d : Dk} {a : Nat} {l : List UInt8} (hl : l.length = 256) (h : ∀ j, j < 8 → d.last (a + j) = sec l j) : rdP d a 8 = l := by
  rw [rdP_take 8 h, List.take_of_length_le (by omega)]
theorem rdP_same {d d' : Dk} {a : Nat} : ∀ k, (∀ j, j < k → d'.last (a + j) = d.last (a + j)) → rdP d' a k = rdP d a k
  | 0, _ => rfl
  | k + 1, h => by
    show rdP d' a k ++ d'.last (a + k) = rdP d a k ++ d.last (a + k)
    rw [rdP_same k (fun j hj => h j (by omega)), h k (by omega)]
theorem tkB_head (t : Nat) (ht : t < 4294967296) (l : List UInt8) : tkB (headB t l) = t := by
  show four (UInt8.ofNat t).toNat (UInt8.ofNat (t / 256)).toNat (UInt8.ofNat (t / 65536)).toNat (UInt8.ofNat (t / 16777216)).toNat = t
  unfold four
  rw [UInt8.toNat_ofNat', UInt8.toNat_ofNat', UInt8.toNat_ofNat', UInt8.toNat_ofNat']
  omega
theorem whole_head (t : Nat) (ht : t ≤ 1048575) (l : List UInt8) : Whole (t % 2) (headB t l) l := by
  have e := tkB_head t (by omega) l
  exact ⟨by rw [e]; exact ht, by rw [e], by rw [e]⟩
theorem mapS_is {u : List UInt8} {ns : List Nam} (hu : u.length = 63) (hr : risN ns) (hk : ∀ x, x ∈ ns → okN x ∧ x.2 < 65536) (hl : ns.length ≤ 6) : MapS (mapB u ns) u ns := ⟨hu, hr, hk, okC_cells hu (fun x hx => (hk x hx).1) hl, rfl⟩
/-- A turn and a state that a half says are the only ones. -/
theorem ComD.uniq {d : Dk} {fr pg hf t t' : Nat} {u u' : List UInt8} {ns ns' : List Nam} (h : ComD d fr pg hf t u ns) (h' : ComD d fr pg hf t' u' ns') : t = t' ∧ u = u' ∧ ns = ns' := by
  obtain ⟨a1, _, a3, _⟩ := h
  obtain ⟨b1, _, b3, _⟩ := h'
  have := a3.inj b3 (dec_ris _)
  exact ⟨a1.symm.trans b1, this.1, this.2⟩
/-- The latest state, told by one half. -/
theorem lat_of {d : Dk} {fr pg hf T t : Nat} {U u : List UInt8} {N ns : List Nam} (hh : hf ≤ 1) (hT : 0 < T) (hc : ComD d fr pg hf T U N) (ho : ∀ t' u' ns', ComD d fr pg (1 - hf) t' u' ns' → t' < T) (h : LatJ (ComD d fr pg) 2 t u ns) : t = T ∧ u = U ∧ ns = N := by
  rcases h with ⟨_, _, _, h4⟩ | ⟨h0, h1, h2, h3, h4⟩
  · have := h4 hf (by omega) T U N hc
    omega
  · by_cases c : h0 = hf
    · subst c
      exact h3.uniq hc
    · obtain rfl : h0 = 1 - hf := by omega
      have a := ho t u ns h3
      have b := h4 hf (by omega) T U N hc
      omega
/-- No state is there. -/
theorem lat_none {d : Dk} {fr pg t : Nat} {u : List UInt8} {ns : List Nam} (h : LatJ (ComD d fr pg) 2 t u ns) (ho : ∀ hf, hf ≤ 1 → ∀ t' u' ns', ComD d fr pg hf t' u' ns' → t' = 0) : t = 0 ∧ u = u0 ∧ ns = [] := by
  rcases h with ⟨h1, h2, h3, _⟩ | ⟨h0, h1, h2, h3, _⟩
  · exact ⟨h1, h2, h3⟩
  · have := ho h0 (by omega) t u ns h3
    omega
theorem tkB_zero : tkB (List.replicate 32 (0 : UInt8)) = 0 := by decide +kernel
end Go.Proofs.YtkhpmmmildcceaaGreat

namespace Go.Proofs.YtkhpmmmildcceaaGreat
open Go.ChangeShapes Go.WideShapes Go.ChangeAt Go.RowKit
set_option linter.unusedVariables false
set_option maxRecDepth 100000

/-- A space's state. -/
structure Sv where
  d : Dk
  fr : Nat
  pg : Nat
  tn : Nat
  lu : List UInt8
  ln : List Nam
  nu : List UInt8
  nn : List Nam
structure SSx (B : Nat) (w : World) (p pd : Nat) (F : Nat → Prop) (a b : Nat) (v : Sv) : Prop where
  sp : SpAt w p ⟨pd, v.fr, v.pg, v.tn, v.lu, some a, v.nu, some b⟩
  dk : Disk w F pd v.d
  np : ¬ F p
  na : ¬ F a
  nb : ¬ F b
  la : NmAt w a v.ln
  lb : NmAt w b v.nn
  ne : a ≠ b
  bF : ∀ i, F i → B ≤ i
  bp : B ≤ p
  ba : B ≤ a
  bb : B ≤ b
/-- A space in memory, with its disk, in blocks from B on. -/
def SH (B : Nat) (w : World) (p pd : Nat) (v : Sv) : Prop := ∃ F a b, SSx B w p pd F a b v
/-- A disk in memory, in blocks from B on. -/
def DH (B : Nat) (w : World) (pd : Nat) (d : Dk) : Prop := ∃ F, Disk w F pd d ∧ ∀ i, F i → B ≤ i
theorem SH.dh {B : Nat} {w : World} {p pd : Nat} {v : Sv} (h : SH B w p pd v) : DH B w pd v.d := by
  obtain ⟨F, a, b, h⟩ := h
  exact ⟨F, h.dk, h.bF⟩
theorem SSx.kept {B : Nat} {w w' : World} {p pd : Nat} {F : Nat → Prop} {a b : Nat} {v : Sv} (h : SSx B w p pd F a b v) (k : Kept (fun _ => False) w w') : SSx B w' p pd F a b v :=
  ⟨h.sp.kept k (fun z => z), h.dk.kept k (fun _ _ z => z), h.np, h.na, h.nb, h.la.kept k (fun z => z), h.lb.kept k (fun z => z), h.ne, h.bF, h.bp, h.ba, h.bb⟩
theorem SH.kept {B : Nat} {w w' : World} {p pd : Nat} {v : Sv} (h : SH B w p pd v) (k : Kept (fun _ => False) w w') : SH B w' p pd v := by
  obtain ⟨F, a, b, h⟩ := h
  exact ⟨F, a, b, h.kept k⟩
theorem DH.kept {B : Nat} {w w' : World} {pd : Nat} {d : Dk} (h : DH B w pd d) (k : Kept (fun _ => False) w w') : DH B w' pd d := by
  obtain ⟨F, h, hb⟩ := h
  exact ⟨F, h.kept k (fun _ _ z => z), hb⟩
/-- May such a space be? -/
structure Ge (v : Sv) : Prop where
  fr4 : v.fr ≤ 4096
  pg5 : v.pg ≤ 500
  ins : ∀ k, k < v.pg → v.fr + (k + 3) * 8 + 8 ≤ v.d.n
  in24 : v.fr + 24 ≤ v.d.n
  ok : OkD v.d
  nok : ∀ y, y ∈ v.nn → okN y
  nl : v.nn.length ≤ 6
  tn : v.tn ≤ 1048575
  lb : ∀ k, bitU v.nu k = true → k < v.pg
theorem Kept.b {B : Nat} {F : Nat → Prop} {w w' : World} (k : Kept F w w') (h : ∀ i, F i → B ≤ i) : Kept (fun i => B ≤ i) w w' := k.mono h
theorem xor_bit (x : UInt8) (i m : Nat) (hi : i < 8) : (x ^^^ UInt8.ofNat (2 ^ i)).toNat.testBit m = (x.toNat.testBit m ^^ decide (i = m)) := by
  rw [UInt8.toNat_xor, Nat.testBit_xor, UInt8.toNat_ofNat']
  have h : 2 ^ i < 256 := by
    have : 2 ^ i ≤ 2 ^ 7 := Nat.pow_le_pow_right (by omega) (by omega)
    omega
  rw [Nat.mod_eq_of_lt (by simpa using h), Nat.testBit_two_pow]
theorem bit_flip {u : List UInt8} (hu : u.length = 63) {k : Nat} (hk : k < 504) (j : Nat) : bitU (flipU u k) j = (bitU u j ^^ decide (k = j)) := by
  unfold bitU flipU
  have hq : k / 8 < u.length := by omega
  by_cases c : k / 8 = j / 8
  · rw [← c, List.getD_eq_getElem?_getD, List.getElem?_set_self hq]
    show (u.getD (k / 8) 0 ^^^ UInt8.ofNat (2 ^ (k % 8))).toNat.testBit (j % 8) = _
    rw [xor_bit _ _ _ (by omega)]
    congr 1
    apply decide_eq_decide.2
    omega
  · rw [List.getD_eq_getElem?_getD, List.getElem?_set_ne c, ← List.getD_eq_getElem?_getD, decide_eq_false (by omega), Bool.xor_false]
theorem Ge.disk {v : Sv} (g : Ge v) (d : Dk) (hn : d.n = v.d.n) (ho : OkD d) : Ge { v with d := d } :=
  ⟨g.fr4, g.pg5, fun k hk => by show _ ≤ d.n; rw [hn]; exact g.ins k hk, by show _ ≤ d.n; rw [hn]; exact g.in24, ho, g.nok, g.nl, g.tn, g.lb⟩
/-- What Alloc leaves. -/
def allocV (v : Sv) (k : Nat) : Sv := { v with d := wrP v.d (v.fr + (k + 3) * 8) z256 8, nu := flipU v.nu k }
theorem Ge.alloc {v : Sv} (g : Ge v) (hu : v.nu.length = 63) {k : Nat} (hk : k < v.pg) : Ge (allocV v k) := by
  have h1 := g.disk (wrP v.d (v.fr + (k + 3) * 8) z256 8) (wrP_n _ _ _ _) (g.ok.wrP _ _ _)
  refine ⟨h1.fr4, h1.pg5, h1.ins, h1.in24, h1.ok, h1.nok, h1.nl, h1.tn, fun j hj => ?_⟩
  have hj2 : bitU (flipU v.nu k) j = true := hj
  have := g.pg5
  rw [bit_flip hu (by omega)] at hj2
  by_cases c : k = j
  · show j < v.pg
    omega
  · rw [decide_eq_false c, Bool.xor_false] at hj2
    exact g.lb j hj2
theorem ou_kb {B : Nat} {F : Nat → Prop} {p pd : Nat} {w w' : World} {dd : Dk} (h : Ou F p w w' pd dd) (hF : ∀ i, F i → B ≤ i) (hp : B ≤ p) : Kept (fun i => B ≤ i) w w' := by
  obtain ⟨F', h1, h2, h3⟩ := h
  exact h2.mono (fun i z => by rcases z with z | z; exact hF i z; omega)
/-- A space behind what a call leaves. -/
theorem SSx.ou {B : Nat} {w w' : World} {p pd : Nat} {F : Nat → Prop} {a b : Nat} {v : Sv} (h : SSx B w p pd F a b v) {dd : Dk} (o : Ou F p w w' pd dd) {v' : Sv} (hs : SpAt w' p ⟨pd, v'.fr, v'.pg, v'.tn, v'.lu, some a, v'.nu, some b⟩) (hd : v'.d = dd) (hl : v'.ln = v.ln) (hn : v'.nn = v.nn) (hB : B ≤ w.heap.size) : SH B w' p pd v' ∧ Kept (fun i => B ≤ i) w w' := by
  have hap := nm_ne_blk h.la h.sp.blk
  have hbp := nm_ne_blk h.lb h.sp.blk
  have kb := ou_kb o h.bF h.bp
  obtain ⟨F', h1, h2, h3⟩ := o
  have hlt := h.sp.blk.lt
  have hla := h.la.lt
  have hlb := h.lb.lt
  have za : NmAt w' a v.ln := h.la.kept h2 (fun z => by
    rcases z with q | q
    · exact h.na q
    · exact hap q)
  have zb : NmAt w' b v.nn := h.lb.kept h2 (fun z => by
    rcases z with q | q
    · exact h.nb q
    · exact hbp q)
  refine ⟨⟨F', a, b, hs, by rw [hd]; exact h1, fun z => ?_, fun z => ?_, fun z => ?_, by rw [hl]; exact za, by rw [hn]; exact zb, h.ne, fun i z => ?_, h.bp, h.ba, h.bb⟩, kb⟩
  · rcases h3 _ z with q | q
    · exact h.np q
    · omega
  · rcases h3 _ z with q | q
    · exact h.na q
    · omega
  · rcases h3 _ z with q | q
    · exact h.nb q
    · omega
  · rcases h3 _ z with q | q
    · exact h.bF i q
    · omega
theorem sh_alloc {B : Nat} {w : World} {p pd : Nat} {v : Sv} (h : SH B w p pd v) (g : Ge v) (hq : v.d.Q.length + 8 ≤ 1048576) (hB : B ≤ w.heap.size) : Calls Tryz.prog 18 #[.pointer (some ⟨p, 0, none⟩)] w fun e w' => ∃ k : Nat, LeastU v.lu v.nu k ∧ ((v.pg ≤ k ∧ e = .returned (.tuple #[.int .i64 0, .int .i64 2]) ∧ w' = w) ∨ (k < v.pg ∧ e = .returned (.tuple #[.int .i64 ((k : Int) + 1), .int .i64 0]) ∧ SH B w' p pd (allocV v k) ∧ Kept (fun i => B ≤ i) w w')) := by
  obtain ⟨F, a, b, hx⟩ := h
  refine (alloc_is hx.sp hx.dk hx.np g.fr4 g.pg5 g.ins hq).mono ?_
  rintro e w' ⟨k, h1, h2⟩
  refine ⟨k, h1, ?_⟩
  rcases h2 with ⟨z1, z2, z3⟩ | ⟨_, _, j, _, _, z, _⟩ | ⟨z1, z2, z3, z4, z5⟩
  · exact .inl ⟨z1, z2, z3⟩
  · rw [(g.ok.wrP _ _ _).on] at z
    cases z
  · have q := hx.ou z5 (v' := allocV v k) z4 rfl rfl rfl hB
    exact .inr ⟨z1, z2, q.1, q.2⟩
/-- What Write leaves. -/
def writeV (v : Sv) (n : Nat) (l : List UInt8) : Sv := { v with d := wrP v.d (v.fr + (n + 2) * 8) l 8 }
theorem place_in {v : Sv} (g : Ge v) {n : Int} (h : hasU v.nu n = true) : (v.fr + (n.toNat + 2) * 8) + 8 ≤ v.d.n := by
  have hr := hasU_range h
  have hb : bitU v.nu (n - 1).toNat = true := by
    unfold hasU at h
    rw [decide_eq_true hr] at h
    exact h
  have := g.lb _ hb
  have := g.ins _ this
  have e : (n - 1).toNat + 3 = n.toNat + 2 := by omega
  rw [e] at this
  exact this
theorem Out.kb {B : Nat} {F : Nat → Prop} {w w' : World} {pd : Nat} {dd : Dk} (h : Out F w w' pd dd) (hF : ∀ i, F i → B ≤ i) : Kept (fun i => B ≤ i) w w' := by
  obtain ⟨F', h1, h2, h3⟩ := h
  exact h2.mono hF
theorem sh_write {B : Nat} {w : World} {p pd : Nat} {v : Sv} (h : SH B w p pd v) (g : Ge v) (hq : v.d.Q.length + 8 ≤ 1048576) (hB : B ≤ w.heap.size) (n : Int) (s : ByteArray) (hs : s.size = 256) : Calls Tryz.prog 19 #[.pointer (some ⟨p, 0, none⟩), .int .i64 n, .string s] w fun e w' => ((hasU v.nu n && !hasU v.lu n) = false ∧ e = .returned (.int .i64 130) ∧ w' = w) ∨ ((hasU v.nu n && !hasU v.lu n) = true ∧ e = .returned (.int .i64 0) ∧ SH B w' p pd (writeV v n.toNat s.data.toList) ∧ Kept (fun i => B ≤ i) w w') := by
  obtain ⟨F, a, b, hx⟩ := h
  refine (swrite_is hx.sp hx.dk hx.np g.fr4 n (fun z => place_in g z) s hs hq).mono ?_
  rintro e w' h2
  rcases h2 with ⟨z1, z2, z3⟩ | ⟨z1, ⟨z2, z3, z4⟩ | ⟨_, j, _, _, z, _⟩⟩
  · exact .inl ⟨z1, z2, z3⟩
  · have hs2 : SpAt w' p ⟨pd, v.fr, v.pg, v.tn, v.lu, some a, v.nu, some b⟩ := by
      obtain ⟨F', q1, q2, q3⟩ := z4
      exact hx.sp.kept q2 hx.np
    have q := hx.ou z4.ou (v' := writeV v n.toNat s.data.toList) hs2 rfl rfl rfl hB
    exact .inr ⟨z1, z2, q.1, q.2⟩
  · rw [(g.ok.wrP _ _ _).on] at z
    cases z
theorem sh_read {B : Nat} {w : World} {p pd : Nat} {v : Sv} (h : SH B w p pd v) (g : Ge v) (n : Int) : Calls Tryz.prog 25 #[.pointer (some ⟨p, 0, none⟩), .int .i64 n] w fun e w' => (hasU v.nu n = false ∧ e = .returned (.tuple #[.string ⟨#[]⟩, .int .i64 130]) ∧ w' = w) ∨ (hasU v.nu n = true ∧ e = .returned (.tuple #[.string ⟨(rdP v.d (v.fr + (n.toNat + 2) * 8) 8).toArray⟩, .int .i64 0]) ∧ SH B w' p pd v ∧ Kept (fun _ => False) w w') := by
  have hh := h
  obtain ⟨F, a, b, hx⟩ := h
  refine (sread_is hx.sp hx.dk g.fr4 n (fun z => place_in g z)).mono ?_
  rintro e w' h2
  rcases h2 with ⟨z1, z2, z3⟩ | ⟨z1, z2, z3⟩
  · exact .inl ⟨z1, z2, z3⟩
  · rw [g.ok.2] at z2
    exact .inr ⟨z1, z2, hh.kept z3, z3⟩
theorem sh_named {B : Nat} {w : World} {p pd : Nat} {v : Sv} (h : SH B w p pd v) (s : ByteArray) (hs : s.size ≤ 1000) : Calls Tryz.prog 26 #[.pointer (some ⟨p, 0, none⟩), .string s] w fun e w' => e = .returned (.tuple #[.int .i64 (((getN v.nn s.data.toList).getD 0 : Nat) : Int), .bool (getN v.nn s.data.toList).isSome]) ∧ w' = w := by
  obtain ⟨F, a, b, hx⟩ := h
  exact named_is hx.sp rfl hx.lb s hs
theorem sh_pages {B : Nat} {w : World} {p pd : Nat} {v : Sv} (h : SH B w p pd v) : Calls Tryz.prog 10 #[.pointer (some ⟨p, 0, none⟩)] w fun e w' => e = .returned (.int .i64 (v.pg : Int)) ∧ w' = w := by
  obtain ⟨F, a, b, hx⟩ := h
  exact pages_is hx.sp
theorem sh_turn {B : Nat} {w : World} {p pd : Nat} {v : Sv} (h : SH B w p pd v) : Calls Tryz.prog 16 #[.pointer (some ⟨p, 0, none⟩)] w fun e w' => e = .returned (.int .i64 (v.tn : Int)) ∧ w' = w := by
  obtain ⟨F, a, b, hx⟩ := h
  exact turn_is hx.sp
theorem sh_used {B : Nat} {w : World} {p pd : Nat} {v : Sv} (h : SH B w p pd v) : Calls Tryz.prog 15 #[.pointer (some ⟨p, 0, none⟩)] w fun e w' => e = .returned (.int .i64 (cntU v.nu : Int)) ∧ w' = w := by
  obtain ⟨F, a, b, hx⟩ := h
  exact sused_is hx.sp
theorem sh_fresh {B : Nat} {w : World} {p pd : Nat} {v : Sv} (h : SH B w p pd v) (n : Int) : Calls Tryz.prog 27 #[.pointer (some ⟨p, 0, none⟩), .int .i64 n] w fun e w' => e = .returned (.bool (hasU v.nu n && !hasU v.lu n)) ∧ w' = w := by
  obtain ⟨F, a, b, hx⟩ := h
  exact fresh_is hx.sp n
/-- What Release leaves. -/
def relV (v : Sv) (k : Nat) : Sv := { v with nu := flipU v.nu k }
theorem SSx.own {B : Nat} {w w' : World} {p pd : Nat} {F : Nat → Prop} {a b : Nat} {v : Sv} (h : SSx B w p pd F a b v) (k : Kept (fun i => i = p) w w') {v' : Sv} (hs : SpAt w' p ⟨pd, v'.fr, v'.pg, v'.tn, v'.lu, some a, v'.nu, some b⟩) (hd : v'.d = v.d) (hl : v'.ln = v.ln) (hn : v'.nn = v.nn) : SH B w' p pd v' ∧ Kept (fun i => B ≤ i) w w' :=
  ⟨⟨F, a, b, hs, by rw [hd]; exact h.dk.kept k (fun i z e => h.np (by rw [← e]; exact z)), h.np, h.na, h.nb, by rw [hl]; exact h.la.kept k (nm_ne_blk h.la h.sp.blk), by rw [hn]; exact h.lb.kept k (nm_ne_blk h.lb h.sp.blk), h.ne, h.bF, h.bp, h.ba, h.bb⟩, k.mono (fun i e => by rw [e]; exact h.bp)⟩
theorem sh_release {B : Nat} {w : World} {p pd : Nat} {v : Sv} (h : SH B w p pd v) (n : Int) : Calls Tryz.prog 23 #[.pointer (some ⟨p, 0, none⟩), .int .i64 n] w fun e w' => (hasU v.nu n = false ∧ e = .returned (.int .i64 130) ∧ w' = w) ∨ (hasU v.nu n = true ∧ e = .returned (.int .i64 0) ∧ SH B w' p pd (relV v (n - 1).toNat) ∧ Kept (fun i => B ≤ i) w w') := by
  obtain ⟨F, a, b, hx⟩ := h
  refine (release_is hx.sp n).mono ?_
  rintro e w' h2
  rcases h2 with ⟨z1, z2, z3⟩ | ⟨z1, z2, z3, z4⟩
  · exact .inl ⟨z1, z2, z3⟩
  · have q := hx.own z4 (v' := relV v (n - 1).toNat) z3 rfl rfl rfl
    exact .inr ⟨z1, z2, q.1, q.2⟩
/-- What Name leaves. -/
def nameV (v : Sv) (s : List UInt8) (n : Nat) : Sv := { v with nn := putN v.nn s n }
theorem sh_name {B : Nat} {w : World} {p pd : Nat} {v : Sv} (h : SH B w p pd v) (g : Ge v) (s : ByteArray) (hs : s.size ≤ 1000) (n : Int) : Calls Tryz.prog 21 #[.pointer (some ⟨p, 0, none⟩), .string s, .int .i64 n] w fun e w' =>
    (¬ (1 ≤ s.size ∧ s.size ≤ 8) ∧ e = .returned (.int .i64 1) ∧ w' = w) ∨
    ((1 ≤ s.size ∧ s.size ≤ 8) ∧ hasU v.nu n = false ∧ e = .returned (.int .i64 130) ∧ w' = w) ∨
    ((1 ≤ s.size ∧ s.size ≤ 8) ∧ hasU v.nu n = true ∧ getN v.nn s.data.toList = none ∧ v.nn.length = 6 ∧ e = .returned (.int .i64 2) ∧ w' = w) ∨
    ((1 ≤ s.size ∧ s.size ≤ 8) ∧ hasU v.nu n = true ∧ ¬ (getN v.nn s.data.toList = none ∧ v.nn.length = 6) ∧ e = .returned (.int .i64 0) ∧ SH B w' p pd (nameV v s.data.toList n.toNat) ∧ Kept (fun i => B ≤ i) w w') := by
  obtain ⟨F, a, b, hx⟩ := h
  refine (name_is hx.sp rfl hx.lb g.nl s hs n).mono ?_
  rintro e w' h2
  rcases h2 with z | z | z | ⟨z1, z2, z3, z4, z5, z6⟩
  · exact .inl z
  · exact .inr (.inl z)
  · exact .inr (.inr (.inl z))
  · refine .inr (.inr (.inr ⟨z1, z2, z3, z4, ⟨F, a, b, ?_⟩, z6.mono (fun i e => by rw [e]; exact hx.bb)⟩))
    exact ⟨hx.sp.kept z6 (fun e => nm_ne_blk hx.lb hx.sp.blk e.symm), hx.dk.kept z6 (fun i q e => hx.nb (by rw [← e]; exact q)), hx.np, hx.na, hx.nb, hx.la.kept z6 hx.ne, z5, hx.ne, hx.bF, hx.bp, hx.ba, hx.bb⟩
/-- What Commit leaves. -/
def comV (v : Sv) (dd : Dk) : Sv := { v with d := dd, tn := v.tn + 1, lu := v.nu, ln := v.nn }
theorem sh_commit {B : Nat} {w : World} {p pd : Nat} {v : Sv} (h : SH B w p pd v) (g : Ge v) (hq : v.d.Q.length + 20 ≤ 1048576) (hB : B ≤ w.heap.size) : Calls Tryz.prog 22 #[.pointer (some ⟨p, 0, none⟩)] w fun e w' =>
    (soundN v.nu v.nn = false ∧ e = .returned (.int .i64 130) ∧ SH B w' p pd v ∧ Kept (fun _ => False) w w') ∨
    (soundN v.nu v.nn = true ∧ v.tn = 1048575 ∧ e = .returned (.int .i64 2) ∧ SH B w' p pd v ∧ Kept (fun _ => False) w w') ∨
    (soundN v.nu v.nn = true ∧ v.tn ≠ 1048575 ∧ e = .returned (.int .i64 0) ∧ ∃ dd, LayS v.d v.fr (v.tn + 1) (mapB v.nu v.nn) 0 dd ∧ SH B w' p pd (comV v dd) ∧ Kept (fun i => B ≤ i) w w') := by
  have hh := h
  obtain ⟨F, a, b, hx⟩ := h
  refine (commit_is hx.sp hx.dk hx.np rfl hx.lb g.nok g.nl g.fr4 g.tn g.in24 hq hx.nb).mono ?_
  rintro e w' h2
  rcases h2 with ⟨z1, z2, z3⟩ | ⟨z1, z2, z3, z4⟩ | ⟨z1, z2, er, dd, z3, z4⟩
  · exact .inl ⟨z1, z2, hh.kept z3, z3⟩
  · exact .inr (.inl ⟨z1, z2, z3, hh.kept z4, z4⟩)
  · have hlay : LayS v.d v.fr (v.tn + 1) (mapB v.nu v.nn) er dd := z3
    have hz := (g.ok.lay hlay).1
    rcases z4 with ⟨q1, _⟩ | ⟨_, q2, k, q3, q4, q5, q6⟩
    · exact absurd hz q1
    · rw [hz] at hlay
      obtain ⟨F', r1, r2, r3, r4⟩ := q6
      refine .inr (.inr ⟨z1, z2, q2, dd, hlay, ?_, ou_kb ⟨F', r1, r2, r3⟩ hx.bF hx.bp⟩)
      have hlt := hx.sp.blk.lt
      have hlb := hx.lb.lt
      refine ⟨F', k, b, q3, r1, fun z => ?_, fun z => ?_, fun z => ?_, q4, hx.lb.kept r2 (fun z => ?_), ?_, fun i z => ?_, hx.bp, by omega, hx.bb⟩
      · rcases r3 _ z with q | q
        · exact hx.np q
        · omega
      · exact r4 z
      · rcases r3 _ z with q | q
        · exact hx.nb q
        · omega
      · rcases z with q | q
        · exact hx.nb q
        · exact nm_ne_blk hx.lb hx.sp.blk q
      · omega
      · rcases r3 _ z with q | q
        · exact hx.bF i q
        · omega
theorem sh_open {B : Nat} {w : World} {pd : Nat} {d : Dk} (h : DH B w pd d) (ho : d.off = false) (hB : B ≤ w.heap.size) (fr tt pg : Nat) (h1 : fr + 32 ≤ tt) (h2 : tt ≤ d.n) (hpg : pg = min ((tt - fr) / 8 - 3) 500) : Calls Tryz.prog 9 #[.pointer (some ⟨pd, 0, none⟩), .int .i64 (fr : Int), .int .i64 (tt : Int)] w fun e w' => ∃ (p t : Nat) (u : List UInt8) (ns : List Nam), e = .returned (.tuple #[.pointer (some ⟨p, 0, none⟩), .int .i64 0]) ∧ SH B w' p pd ⟨d, fr, pg, t, u, ns, u, ns⟩ ∧ LatJ (ComD d fr pg) 2 t u ns ∧ t ≤ 4294967296 ∧ Kept (fun _ => False) w w' := by
  obtain ⟨F, hd, hF⟩ := h
  refine (open_space hd ho fr tt pg h1 h2 hpg).mono ?_
  rintro e w' ⟨p, t, u, a, b, ns, rfl, g1, g2, g3, g4, g5, g6, g7, g8, g9, g10, g11⟩
  have hbd := hd.bound
  exact ⟨p, t, u, ns, rfl, ⟨F, a, b, g1, g8, fun z => by have := hbd _ z; omega, fun z => by have := hbd _ z; omega, fun z => by have := hbd _ z; omega, g2, g3, g4, hF, by omega, by omega, by omega⟩, g11, g10, g9⟩
theorem dh_new (n : Nat) (h1 : 1 ≤ n) (h2 : n ≤ 4096) (w : World) : Calls Tryz.prog 8 #[.int .i64 (n : Int)] w fun e w' => ∃ pd, e = .returned (.tuple #[.pointer (some ⟨pd, 0, none⟩), .int .i64 0]) ∧ DH w.heap.size w' pd (fresh n) ∧ Kept (fun _ => False) w w' := by
  refine (new_is n h1 h2 w).mono ?_
  rintro e w' ⟨pd, F, rfl, q1, q2, q3⟩
  exact ⟨pd, rfl, ⟨F, q1, q3⟩, below_k0 q2⟩
theorem dh_crash {B : Nat} {w : World} {pd : Nat} {d : Dk} (h : DH B w pd d) (hn : d.Q.length ≤ 1048576) (u : Value) (ks : List Int) (hu : Ints w u ks) (hF : ∀ a n c, u = .slice (some a) n c → a.block < B) (hkl : ks.length ≤ 9223372036854775807) : Calls Tryz.prog 24 #[.pointer (some ⟨pd, 0, none⟩), u] w fun e w' => e = .returned (.int .i64 0) ∧ DH B w' pd (d.crash ks) ∧ Kept (fun i => B ≤ i) w w' := by
  obtain ⟨F, hd, hb⟩ := h
  refine (disk_crash hd hn u ks hu (fun a n c e z => by have := hb _ z; have := hF a n c e; omega) hkl).mono ?_
  rintro e w' ⟨q1, q2, q3⟩
  exact ⟨q1, ⟨F, q2, hb⟩, q3.mono hb⟩
end Go.Proofs.YtkhpmmmildcceaaGreat
