/- What was committed stays. -/
import Derived.Test.YtkhpmmmildcceaaGreatQN1
import Derived.Test.YtkhpmmmildcceaaGreatQFu
namespace Go.Proofs.YtkhpmmmildcceaaGreat
open Go.ChangeShapes Go.WideShapes Go.ChangeAt Go.RowKit
set_option linter.unusedVariables false
set_option maxRecDepth 100000

/-- The first j pages are in use. -/
def uN : Nat → List UInt8
  | 0 => u0
  | j + 1 => flipU (uN j) j
def firstL : List UInt8 := [102, 105, 114, 115, 116]
def otherL : List UInt8 := [111, 116, 104, 101, 114]
def nF : List Nam := [(firstL, 1)]
theorem uN_is : ∀ n, n < 6 → (1 ≤ n → soundN (uN n) nF = true) ∧ cntU (uN n) = n := by decide +kernel
theorem nF_put : putN [] firstL 1 = nF := rfl
theorem nO_put (k : Nat) : putN nF otherL k = [(firstL, 1), (otherL, k)] := rfl
theorem nO_put2 (k m : Nat) : putN [(firstL, 1), (otherL, m)] otherL k = [(firstL, 1), (otherL, k)] := rfl
theorem uN_len : ∀ j, (uN j).length = 63
  | 0 => u0_len
  | j + 1 => by
    show (flipU (uN j) j).length = 63
    unfold flipU
    rw [List.length_set, uN_len j]
theorem uN_bit (k : Nat) : ∀ j, j ≤ 504 → bitU (uN j) k = decide (k < j)
  | 0, _ => by
    show bitU u0 k = _
    rw [bit_u0, decide_eq_false (by omega)]
  | j + 1, h => by
    show bitU (flipU (uN j) j) k = _
    rw [bit_flip (uN_len j) (by omega), uN_bit k j (by omega)]
    by_cases c : j = k
    · subst c
      rw [decide_eq_false (by omega), decide_eq_true rfl, decide_eq_true (by omega)]
      rfl
    · rw [decide_eq_false c, Bool.xor_false]
      apply decide_eq_decide.2
      omega
theorem wrP_S {d : Dk} (h : OkD d) (a : Nat) (l : List UInt8) : ∀ k, (wrP d a l k).S = d.S
  | 0 => rfl
  | k + 1 => by
    show ((wrP d a l k).write (a + k) (sec l k)).S = d.S
    rw [(h.wrP a l k).write_eq]
    exact wrP_S h a l k
theorem wrP_at {d : Dk} (h : OkD d) (a : Nat) (l : List UInt8) : ∀ k x, x ∈ (wrP d a l k).Q → x ∈ d.Q ∨ a ≤ x.1
  | 0, x, hx => .inl hx
  | k + 1, x, hx => by
    have hx2 : x ∈ ((wrP d a l k).write (a + k) (sec l k)).Q := hx
    rw [(h.wrP a l k).write_eq] at hx2
    rcases List.mem_append.1 hx2 with q | q
    · exact wrP_at h a l k x q
    · rw [List.mem_singleton.1 q]
      exact .inr (Nat.le_add_right _ _)
def pageL (i : Nat) : List UInt8 := List.replicate 256 (UInt8.ofNat (98 + i))
/-- c pages are taken, j are written. -/
structure KA (j c : Nat) (v : Sv) : Prop where
  ge : Ge v
  dn : v.d.n = 100
  fr : v.fr = 0
  pg : v.pg = 9
  tn : v.tn = 0
  lu : v.lu = u0
  nu : v.nu = uN c
  q : v.d.Q.length ≤ 8 * (j + c)
  z : v.d.last 0 = List.replicate 32 (0 : UInt8)
  ps : ∀ i, i < j → ∀ m, m < 8 → v.d.last ((i + 3) * 8 + m) = sec (pageL i) m
theorem ka_new {d : Dk} (hd : d = fresh 100) : KA 0 0 (newV d 0 9) := by
  subst hd
  exact ⟨Ge.new (tt := 96) (fresh_ok 100) (by omega) (by show 96 ≤ 100; omega) (by show 100 ≤ 4096; omega) (by decide), rfl, rfl, rfl, rfl, rfl, rfl, Nat.zero_le _, rfl, fun i hi => absurd hi (by omega)⟩
theorem ka_alloc {B : Nat} {w : World} {p pd : Nat} {v : Sv} (h : SH B w p pd v) {j : Nat} (f : KA j j v) (hv : v.nn = []) (hj : j < 5) (hB : B ≤ w.heap.size) : Calls Tryz.prog 18 #[.pointer (some ⟨p, 0, none⟩)] w fun e w' => e = .returned (.tuple #[.int .i64 ((j : Int) + 1), .int .i64 0]) ∧ (∃ v', SH B w' p pd v' ∧ KA j (j + 1) v' ∧ v'.nn = []) ∧ Kept (fun i => B ≤ i) w w' := by
  have hq2 := f.q
  refine (sh_alloc h f.ge (by omega) hB).mono ?_
  rintro e w' ⟨k, h1, h2⟩
  have hk : k = j := by
    rcases Nat.lt_trichotomy k j with q | q | q
    · have := h1.2.2 (by omega)
      rw [f.nu, uN_bit _ _ (by omega), decide_eq_true q] at this
      cases this
    · exact q
    · have := h1.2.1 j q
      rw [f.nu, f.lu, uN_bit _ _ (by omega), bit_u0, decide_eq_false (by omega)] at this
      cases this
  subst hk
  have hp := f.pg
  have hf := f.fr
  rcases h2 with ⟨z, _⟩ | ⟨z1, z2, z3, z4⟩
  · omega
  · refine ⟨z2, ⟨_, z3, ⟨f.ge.alloc h.nl z1, ?_, f.fr, f.pg, f.tn, f.lu, ?_, ?_, ?_, fun i hi m hm => ?_⟩, hv⟩, z4⟩
    · show (wrP v.d _ z256 8).n = 100
      rw [wrP_n, f.dn]
    · show flipU v.nu k = flipU (uN k) k
      rw [f.nu]
    · have := wrP_Q v.d (v.fr + (k + 3) * 8) z256 8
      show (wrP v.d (v.fr + (k + 3) * 8) z256 8).Q.length ≤ _
      omega
    · show (wrP v.d (v.fr + (k + 3) * 8) z256 8).last 0 = _
      rw [f.ge.ok.last_wrP, if_neg (by omega), f.z]
    · show (wrP v.d (v.fr + (k + 3) * 8) z256 8).last _ = _
      rw [f.ge.ok.last_wrP, if_neg (by omega), f.ps i hi m hm]
theorem ka_write {B : Nat} {w : World} {p pd : Nat} {v : Sv} (h : SH B w p pd v) {j : Nat} (f : KA j (j + 1) v) (hv : v.nn = []) (hj : j < 5) (hB : B ≤ w.heap.size) : Calls Tryz.prog 19 #[.pointer (some ⟨p, 0, none⟩), .int .i64 ((j : Int) + 1), .string (fill (UInt8.ofNat (98 + j)))] w fun e w' => e = .returned (.int .i64 0) ∧ (∃ v', SH B w' p pd v' ∧ KA (j + 1) (j + 1) v' ∧ v'.nn = []) ∧ Kept (fun i => B ≤ i) w w' := by
  have hq2 := f.q
  have hb : (hasU v.nu ((j : Int) + 1) && !hasU v.lu ((j : Int) + 1)) = true := by
    rw [hasU_bit _ _ (by omega), hasU_bit _ _ (by omega), f.nu, f.lu, uN_bit _ _ (by omega), bit_u0, decide_eq_true (by omega)]
    rfl
  refine (sh_write h f.ge (by omega) hB ((j : Int) + 1) _ (fill_size _)).mono ?_
  rintro e w' h2
  rw [hb] at h2
  have hf := f.fr
  have ej : ((j : Int) + 1).toNat = j + 1 := by omega
  rcases h2 with ⟨z, _⟩ | ⟨_, z2, z3, z4⟩
  · cases z
  · rw [ej] at z3
    refine ⟨z2, ⟨_, z3, ⟨f.ge.disk _ (wrP_n _ _ _ _) (f.ge.ok.wrP _ _ _), ?_, f.fr, f.pg, f.tn, f.lu, f.nu, ?_, ?_, fun i hi m hm => ?_⟩, hv⟩, z4⟩
    · show (wrP v.d _ _ 8).n = 100
      rw [wrP_n, f.dn]
    · have := wrP_Q v.d (v.fr + (j + 1 + 2) * 8) (fill (UInt8.ofNat (98 + j))).data.toList 8
      show (wrP v.d (v.fr + (j + 1 + 2) * 8) (fill (UInt8.ofNat (98 + j))).data.toList 8).Q.length ≤ _
      omega
    · show (wrP v.d (v.fr + (j + 1 + 2) * 8) _ 8).last 0 = _
      rw [f.ge.ok.last_wrP, if_neg (by omega), f.z]
    · show (wrP v.d (v.fr + (j + 1 + 2) * 8) _ 8).last _ = _
      rw [f.ge.ok.last_wrP]
      by_cases c : i = j
      · subst c
        rw [if_pos (by omega), show (i + 3) * 8 + m - (v.fr + (i + 1 + 2) * 8) = m by omega]
        rfl
      · rw [if_neg (by omega), f.ps i (by omega) m hm]
theorem ka_name {B : Nat} {w : World} {p pd : Nat} {v : Sv} (h : SH B w p pd v) {n : Nat} (f : KA n n v) (hv : v.nn = []) (h1 : 1 ≤ n) (h5 : n ≤ 5) : Calls Tryz.prog 21 #[.pointer (some ⟨p, 0, none⟩), .string ⟨#[102, 105, 114, 115, 116]⟩, .int .i64 1] w fun e w' => e = .returned (.int .i64 0) ∧ (∃ v', SH B w' p pd v' ∧ KA n n v' ∧ v'.nn = nF) ∧ Kept (fun i => B ≤ i) w w' := by
  have hb : hasU v.nu (1 : Int) = true := by
    have := hasU_bit v.nu 0 (by omega)
    rw [f.nu, uN_bit _ _ (by omega), decide_eq_true (by omega)] at this
    rw [f.nu]
    exact this
  refine (sh_name h f.ge ⟨#[102, 105, 114, 115, 116]⟩ (by show 5 ≤ 1000; omega) 1).mono ?_
  rintro e w' z
  rw [hb] at z
  rcases z with ⟨z, _⟩ | ⟨_, z, _⟩ | ⟨_, _, _, z, _⟩ | ⟨_, _, _, z2, z3, z4⟩
  · exact absurd (show 1 ≤ 5 ∧ 5 ≤ 8 by omega) z
  · cases z
  · rw [hv] at z
    cases z
  · have e1 : (nameV v [102, 105, 114, 115, 116] 1).nn = nF := by
      show putN v.nn firstL 1 = nF
      rw [hv]
      rfl
    refine ⟨z2, ⟨_, z3, ⟨f.ge.name (by show 1 ≤ 5; omega) (by show 5 ≤ 8; omega) (by show (nameV v [102, 105, 114, 115, 116] 1).nn.length ≤ 6; rw [e1]; decide), f.dn, f.fr, f.pg, f.tn, f.lu, f.nu, f.q, f.z, f.ps⟩, e1⟩, z4⟩
/-- Behind the commit. -/
structure KB (n qn : Nat) (v : Sv) : Prop where
  ge : Ge v
  dn : v.d.n = 100
  fr : v.fr = 0
  pg : v.pg = 9
  tn : v.tn = 1
  lu : v.lu = uN n
  nn : v.nn = nF ∨ ∃ k, v.nn = [(firstL, 1), (otherL, k)]
  q : v.d.Q.length ≤ qn
  z : v.d.S 0 = List.replicate 32 (0 : UInt8)
  hd : v.d.S 1 = headB 1 (mapB (uN n) nF)
  mp : ∀ m, m < 8 → v.d.S (16 + m) = sec (mapB (uN n) nF) m
  ps : ∀ i, i < n → ∀ m, m < 8 → v.d.S ((i + 3) * 8 + m) = sec (pageL i) m
  qa : ∀ x, x ∈ v.d.Q → (n + 3) * 8 ≤ x.1
theorem ka_commit {B : Nat} {w : World} {p pd : Nat} {v : Sv} (h : SH B w p pd v) {n : Nat} (f : KA n n v) (hv : v.nn = nF) (h1 : 1 ≤ n) (h5 : n ≤ 5) (hB : B ≤ w.heap.size) : Calls Tryz.prog 22 #[.pointer (some ⟨p, 0, none⟩)] w fun e w' => e = .returned (.int .i64 0) ∧ (∃ v', SH B w' p pd v' ∧ KB n 0 v') ∧ Kept (fun i => B ≤ i) w w' := by
  have hq2 := f.q
  have ht := f.tn
  refine (sh_commit h f.ge (by omega) hB).mono ?_
  rintro e w' z
  have hs : soundN v.nu v.nn = true := by
    rw [f.nu, hv]
    exact (uN_is n (by omega)).1 h1
  rcases z with ⟨z, _⟩ | ⟨_, z, _⟩ | ⟨_, _, z2, dd, z3, z4, z5⟩
  · rw [hs] at z
    cases z
  · omega
  · rw [f.fr, f.tn, f.nu, hv] at z3
    obtain ⟨_, r1, r2, r3, r4⟩ := f.ge.ok.lay z3
    have hS : ∀ i, dd.S i = dd.last i := fun i => by
      show dd.S i = behind (dd.S i) i dd.Q
      rw [r3]
      rfl
    have g1 := f.ge.disk dd r2 r1
    refine ⟨z2, ⟨_, z4, ⟨⟨g1.fr4, g1.pg5, g1.ins, g1.in24, g1.ok, g1.nok, g1.nl, by show v.tn + 1 ≤ 1048575; omega, g1.lb⟩, by show dd.n = 100; rw [r2, f.dn], f.fr, f.pg, by show v.tn + 1 = 1; omega, f.nu, .inl hv, by show dd.Q.length ≤ 0; rw [r3]; exact Nat.le_refl _, ?_, ?_, fun m hm => ?_, fun i hi m hm => ?_, fun x hx => ?_⟩⟩, z5⟩
    · show dd.S 0 = _
      rw [hS, r4, if_neg (by omega), if_neg (by omega), f.z]
    · show dd.S 1 = _
      rw [hS, r4, if_pos (by omega)]
    · show dd.S (16 + m) = _
      rw [hS, r4, if_neg (by omega), if_pos (by omega)]
      congr 1
      omega
    · show dd.S ((i + 3) * 8 + m) = _
      rw [hS, r4, if_neg (by omega), if_neg (by omega), f.ps i hi m hm]
    · have hx2 : x ∈ dd.Q := hx
      rw [r3] at hx2
      cases hx2
theorem KB.more {n a b : Nat} {v : Sv} (f : KB n a v) (h : a ≤ b) : KB n b v := ⟨f.ge, f.dn, f.fr, f.pg, f.tn, f.lu, f.nn, Nat.le_trans f.q h, f.z, f.hd, f.mp, f.ps, f.qa⟩
/-- A page behind those that are committed is written. -/
theorem KB.wr {n qn : Nat} {v v' : Sv} (f : KB n qn v) (k : Nat) (hk : n ≤ k) (l : List UInt8) (hd : v'.d = wrP v.d (v.fr + (k + 3) * 8) l 8) (g : Ge v') (h1 : v'.fr = v.fr) (h2 : v'.pg = v.pg) (h3 : v'.tn = v.tn) (h4 : v'.lu = v.lu) (h5 : v'.nn = v.nn) : KB n (qn + 8) v' := by
  have hS : v'.d.S = v.d.S := by rw [hd, wrP_S f.ge.ok]
  have hf := f.fr
  refine ⟨g, by rw [hd, wrP_n, f.dn], by rw [h1, f.fr], by rw [h2, f.pg], by rw [h3, f.tn], by rw [h4, f.lu], by rw [h5]; exact f.nn, ?_, by rw [hS]; exact f.z, by rw [hS]; exact f.hd, fun m hm => by rw [hS]; exact f.mp m hm, fun i hi m hm => by rw [hS]; exact f.ps i hi m hm, fun x hx => ?_⟩
  · rw [hd]
    have := wrP_Q v.d (v.fr + (k + 3) * 8) l 8
    have := f.q
    omega
  · rw [hd] at hx
    rcases wrP_at f.ge.ok _ _ 8 x hx with q | q
    · exact f.qa x q
    · omega
theorem kb_alloc {B : Nat} {w : World} {p pd : Nat} {v : Sv} (h : SH B w p pd v) {n qn : Nat} (f : KB n qn v) (h5 : n ≤ 5) (hq : qn ≤ 1000) (hB : B ≤ w.heap.size) : Calls Tryz.prog 18 #[.pointer (some ⟨p, 0, none⟩)] w fun e w' => ∃ m er : Int, e = .returned (.tuple #[.int .i64 m, .int .i64 er]) ∧ (er = 0 → (n : Int) < m) ∧ (er = 0 ∨ er = 2) ∧ 0 ≤ m ∧ m ≤ 600 ∧ (∃ v', SH B w' p pd v' ∧ KB n (qn + 8) v') ∧ Kept (fun i => B ≤ i) w w' := by
  have hq2 := f.q
  refine (sh_alloc h f.ge (by omega) hB).mono ?_
  rintro e w' ⟨k, h1, h2⟩
  rcases h2 with ⟨z1, z2, z3⟩ | ⟨z1, z2, z3, z4⟩
  · subst z3
    exact ⟨0, 2, z2, fun e => by omega, .inr rfl, by omega, by omega, ⟨v, h, f.more (by omega)⟩, Kept.refl _ _⟩
  · have hp := f.pg
    have hk : n ≤ k := by
      have := h1.2.2 (by omega)
      rw [f.lu, uN_bit _ _ (by omega), Bool.or_eq_false_iff, decide_eq_false_iff_not] at this
      omega
    exact ⟨(k : Int) + 1, 0, z2, fun _ => by omega, .inl rfl, by omega, by omega, ⟨_, z3, f.wr k hk z256 rfl (f.ge.alloc h.nl z1) rfl rfl rfl rfl rfl⟩, z4⟩
theorem kb_write {B : Nat} {w : World} {p pd : Nat} {v : Sv} (h : SH B w p pd v) {n qn : Nat} (f : KB n qn v) (h5 : n ≤ 5) (hq : qn ≤ 1000) (hB : B ≤ w.heap.size) (k : Int) (s : ByteArray) (hs : s.size = 256) : Calls Tryz.prog 19 #[.pointer (some ⟨p, 0, none⟩), .int .i64 k, .string s] w fun e w' => ∃ er : Int, e = .returned (.int .i64 er) ∧ (er = 0 → (n : Int) < k) ∧ (er = 0 ∨ er = 130) ∧ (∃ v', SH B w' p pd v' ∧ KB n (qn + 8) v') ∧ Kept (fun i => B ≤ i) w w' := by
  have hq2 := f.q
  refine (sh_write h f.ge (by omega) hB k s hs).mono ?_
  rintro e w' h2
  rcases h2 with ⟨z1, z2, z3⟩ | ⟨z1, z2, z3, z4⟩
  · subst z3
    exact ⟨130, z2, fun e => by omega, .inr rfl, ⟨v, h, f.more (by omega)⟩, Kept.refl _ _⟩
  · rw [Bool.and_eq_true, Bool.not_eq_true'] at z1
    have hr := hasU_range z1.1
    obtain ⟨m, rfl⟩ : ∃ m : Nat, k = (m : Int) + 1 := ⟨(k - 1).toNat, by omega⟩
    have hl := z1.2
    rw [hasU_bit _ _ (by omega), f.lu, uN_bit _ _ (by omega), decide_eq_false_iff_not] at hl
    have em : ((m : Int) + 1).toNat = m + 1 := by omega
    rw [em] at z3
    exact ⟨0, z2, fun _ => by omega, .inl rfl, ⟨_, z3, f.wr m (by omega) s.data.toList rfl (f.ge.disk _ (wrP_n _ _ _ _) (f.ge.ok.wrP _ _ _)) rfl rfl rfl rfl rfl⟩, z4⟩
theorem kb_release {B : Nat} {w : World} {p pd : Nat} {v : Sv} (h : SH B w p pd v) {n qn : Nat} (f : KB n qn v) (k : Int) : Calls Tryz.prog 23 #[.pointer (some ⟨p, 0, none⟩), .int .i64 k] w fun e w' => ∃ er : Int, e = .returned (.int .i64 er) ∧ (∃ v', SH B w' p pd v' ∧ KB n (qn + 8) v') ∧ Kept (fun i => B ≤ i) w w' := by
  refine (sh_release h k).mono ?_
  rintro e w' h2
  rcases h2 with ⟨z1, z2, z3⟩ | ⟨z1, z2, z3, z4⟩
  · subst z3
    exact ⟨130, z2, ⟨v, h, f.more (by omega)⟩, Kept.refl _ _⟩
  · have hr := hasU_range z1
    obtain ⟨m, rfl⟩ : ∃ m : Nat, k = (m : Int) + 1 := ⟨(k - 1).toNat, by omega⟩
    rw [hasU_bit _ _ (by omega)] at z1
    have em : ((m : Int) + 1 - 1).toNat = m := by omega
    rw [em] at z3
    have g := f.ge
    have f' := f.more (b := qn + 8) (by omega)
    exact ⟨0, z2, ⟨_, z3, ⟨⟨g.fr4, g.pg5, g.ins, g.in24, g.ok, g.nok, g.nl, g.tn, fun j hj => by
      have hj2 : bitU (flipU v.nu m) j = true := hj
      rw [bit_flip h.nl (by omega)] at hj2
      by_cases c : m = j
      · subst c
        exact g.lb m z1
      · rw [decide_eq_false c, Bool.xor_false] at hj2
        exact g.lb j hj2⟩, f'.dn, f'.fr, f'.pg, f'.tn, f'.lu, f'.nn, f'.q, f'.z, f'.hd, f'.mp, f'.ps, f'.qa⟩⟩, z4⟩
theorem kb_name {B : Nat} {w : World} {p pd : Nat} {v : Sv} (h : SH B w p pd v) {n qn : Nat} (f : KB n qn v) (k : Int) : Calls Tryz.prog 21 #[.pointer (some ⟨p, 0, none⟩), .string ⟨#[111, 116, 104, 101, 114]⟩, .int .i64 k] w fun e w' => ∃ er : Int, e = .returned (.int .i64 er) ∧ (∃ v', SH B w' p pd v' ∧ KB n (qn + 8) v') ∧ Kept (fun i => B ≤ i) w w' := by
  have f' := f.more (b := qn + 8) (by omega)
  refine (sh_name h f.ge ⟨#[111, 116, 104, 101, 114]⟩ (by show 5 ≤ 1000; omega) k).mono ?_
  rintro e w' z
  rcases z with ⟨_, z2, z3⟩ | ⟨_, _, z2, z3⟩ | ⟨_, _, _, _, z2, z3⟩ | ⟨_, _, _, z2, z3, z4⟩
  · subst z3
    exact ⟨_, z2, ⟨v, h, f'⟩, Kept.refl _ _⟩
  · subst z3
    exact ⟨_, z2, ⟨v, h, f'⟩, Kept.refl _ _⟩
  · subst z3
    exact ⟨_, z2, ⟨v, h, f'⟩, Kept.refl _ _⟩
  · have e1 : putN v.nn otherL k.toNat = [(firstL, 1), (otherL, k.toNat)] := by
      rcases f.nn with q | ⟨m, q⟩
      · rw [q]
        rfl
      · rw [q]
        rfl
    refine ⟨_, z2, ⟨_, z3, ⟨f.ge.name (by show 1 ≤ 5; omega) (by show 5 ≤ 8; omega) (by show (putN v.nn otherL k.toNat).length ≤ 6; rw [e1]; show 2 ≤ 6; omega), f'.dn, f'.fr, f'.pg, f'.tn, f'.lu, .inr ⟨k.toNat, e1⟩, f'.q, f'.z, f'.hd, f'.mp, f'.ps, f'.qa⟩⟩, z4⟩
/-- A disk behind a crash. -/
structure KC (n : Nat) (d : Dk) : Prop where
  ok : OkD d
  dn : d.n = 100
  z : d.last 0 = List.replicate 32 (0 : UInt8)
  hd : d.last 1 = headB 1 (mapB (uN n) nF)
  mp : ∀ m, m < 8 → d.last (16 + m) = sec (mapB (uN n) nF) m
  ps : ∀ i, i < n → ∀ m, m < 8 → d.last ((i + 3) * 8 + m) = sec (pageL i) m
theorem KB.crash {n qn : Nat} {v : Sv} (f : KB n qn v) (ks : List Int) : KC n (v.d.crash ks) := by
  have hl : ∀ i, i < (n + 3) * 8 → (v.d.crash ks).last i = v.d.S i := fun i hi => by
    show torn v.d.S (v.d.Q.zip ks) i = v.d.S i
    exact torn_out _ _ (fun x hx e => by
      have := f.qa x.1 (List.of_mem_zip hx).1
      omega) _
  exact ⟨⟨rfl, rfl⟩, f.dn, by rw [hl _ (by omega)]; exact f.z, by rw [hl _ (by omega)]; exact f.hd, fun m hm => by rw [hl _ (by omega)]; exact f.mp m hm, fun i hi m hm => by rw [hl _ (by omega)]; exact f.ps i hi m hm⟩
theorem KC.lat {n : Nat} {d : Dk} (f : KC n d) (h1 : 1 ≤ n) (h5 : n ≤ 5) {t : Nat} {u : List UInt8} {ns : List Nam} (h : LatJ (ComD d 0 9) 2 t u ns) : t = 1 ∧ u = uN n ∧ ns = nF := by
  have hm : (mapB (uN n) nF).length = 256 := bytesB_len _ (okC_cells (uN_len n) (fun x hx => by
    rw [List.mem_singleton.1 hx]
    exact ⟨by decide, by decide⟩) (by decide))
  have e2 : rdP d 16 8 = mapB (uN n) nF := rdP_all hm (fun j hj => f.mp j hj)
  refine lat_of (hf := 1) (by omega) (by omega) ?_ (fun t' u' ns' hc => ?_) h
  · have hwh := whole_head 1 (by omega) (mapB (uN n) nF)
    have htk := tkB_head 1 (by omega) (mapB (uN n) nF)
    refine ⟨?_, ?_, ?_, ?_⟩
    · show tkB (d.last (0 + 1)) = 1
      rw [show 0 + 1 = 1 from rfl, f.hd]
      exact htk
    · show Whole 1 (d.last (0 + 1)) (rdP d (0 + (1 + 1) * 8) 8)
      rw [show 0 + 1 = 1 from rfl, show 0 + (1 + 1) * 8 = 16 from rfl, f.hd, e2]
      exact hwh
    · show MapS (rdP d (0 + (1 + 1) * 8) 8) (uN n) nF
      rw [show 0 + (1 + 1) * 8 = 16 from rfl, e2]
      exact mapS_is (uN_len n) (List.pairwise_singleton _ _) (fun x hx => by
        rw [List.mem_singleton.1 hx]
        exact ⟨⟨by decide, by decide⟩, by decide⟩) (by decide)
    · exact ⟨(uN_is n (by omega)).1 h1, by decide, fun k h1 h2 => by rw [uN_bit _ _ (by omega), decide_eq_false (by omega)]⟩
  · have := hc.1
    have this : tkB (d.last (0 + (1 - 1))) = t' := this
    rw [show 0 + (1 - 1) = 0 from rfl, f.z, tkB_zero] at this
    omega
/-- Opened again. -/
structure KD (n : Nat) (v : Sv) : Prop where
  ge : Ge v
  fr : v.fr = 0
  tn : v.tn = 1
  nu : v.nu = uN n
  nn : v.nn = nF
  ps : ∀ i, i < n → ∀ m, m < 8 → v.d.last ((i + 3) * 8 + m) = sec (pageL i) m
theorem kc_open {B : Nat} {w : World} {pd : Nat} {d : Dk} (h : DH B w pd d) {n : Nat} (f : KC n d) (h1 : 1 ≤ n) (h5 : n ≤ 5) (hB : B ≤ w.heap.size) : Calls Tryz.prog 9 #[.pointer (some ⟨pd, 0, none⟩), .int .i64 0, .int .i64 96] w fun e w' => ∃ p, e = .returned (.tuple #[.pointer (some ⟨p, 0, none⟩), .int .i64 0]) ∧ (∃ v', SH B w' p pd v' ∧ KD n v') ∧ Kept (fun i => B ≤ i) w w' := by
  have hdn := f.dn
  refine (sh_open h f.ok.2 hB 0 96 9 (by omega) (by omega) (by decide)).mono ?_
  rintro e w' ⟨p, t, u, ns, q1, q2, q3, q4, q5⟩
  obtain ⟨rfl, rfl, rfl⟩ := f.lat h1 h5 q3
  exact ⟨p, q1, ⟨_, q2, ⟨by show 0 ≤ 4096; omega, by show 9 ≤ 500; omega, fun k hk => by
    have hk2 : k < 9 := hk
    show 0 + (k + 3) * 8 + 8 ≤ d.n
    omega, by show 0 + 24 ≤ d.n; omega, f.ok, fun y hy => by
    have hy2 : y ∈ nF := hy
    rw [List.mem_singleton.1 hy2]
    exact ⟨by decide, by decide⟩, by show 1 ≤ 6; omega, by show 1 ≤ 1048575; omega, fun k hk => by
    have hk2 : bitU (uN n) k = true := hk
    rw [uN_bit _ _ (by omega)] at hk2
    have := of_decide_eq_true hk2
    show k < 9
    omega⟩, rfl, rfl, rfl, rfl, f.ps⟩, q5.mono (fun _ z => z.elim)⟩
theorem kd_read {B : Nat} {w : World} {p pd : Nat} {v : Sv} (h : SH B w p pd v) {n j : Nat} (f : KD n v) (hj : j < n) (h5 : n ≤ 5) : Calls Tryz.prog 25 #[.pointer (some ⟨p, 0, none⟩), .int .i64 ((j : Int) + 1)] w fun e w' => e = .returned (.tuple #[.string (fill (UInt8.ofNat (98 + j))), .int .i64 0]) ∧ (∃ v', SH B w' p pd v' ∧ KD n v') ∧ Kept (fun i => B ≤ i) w w' := by
  have hb : hasU v.nu ((j : Int) + 1) = true := by
    rw [hasU_bit _ _ (by omega), f.nu, uN_bit _ _ (by omega), decide_eq_true hj]
  refine (sh_read h f.ge ((j : Int) + 1)).mono ?_
  rintro e w' z
  rw [hb] at z
  have ej : ((j : Int) + 1).toNat = j + 1 := by omega
  have e1 : rdP v.d (v.fr + (j + 1 + 2) * 8) 8 = pageL j := rdP_all (by unfold pageL; rw [List.length_replicate]) (fun m hm => by
    have := f.fr
    rw [show v.fr + (j + 1 + 2) * 8 + m = (j + 3) * 8 + m by omega]
    exact f.ps j hj m hm)
  rcases z with ⟨z, _⟩ | ⟨_, z2, z3, z4⟩
  · cases z
  · rw [ej, e1] at z2
    exact ⟨z2, ⟨v, z3, f⟩, z4.mono (fun _ z => z.elim)⟩
theorem and3 (n : Int) : bits .and .i64 n 3 = n % 4 := by
  have h : (BitVec.ofInt 64 3).toNat = 2 ^ 2 - 1 := by decide
  have key : (BitVec.ofInt 64 n &&& BitVec.ofInt 64 3).toNat = (n % ((2 ^ 64 : Nat) : Int)).toNat % 2 ^ 2 := by
    rw [BitVec.toNat_and, BitVec.toNat_ofInt, h, Nat.and_two_pow_sub_one_eq_mod]
  show IntKind.i64.wrap ((BitVec.ofInt 64 n &&& BitVec.ofInt 64 3).toNat : Nat) = n % 4
  rw [key, IntKind.wrap_i64]
  omega
theorem and15 (n : Int) : bits .and .i64 n 15 = n % 16 := by
  have h : (BitVec.ofInt 64 15).toNat = 2 ^ 4 - 1 := by decide
  have key : (BitVec.ofInt 64 n &&& BitVec.ofInt 64 15).toNat = (n % ((2 ^ 64 : Nat) : Int)).toNat % 2 ^ 4 := by
    rw [BitVec.toNat_and, BitVec.toNat_ofInt, h, Nat.and_two_pow_sub_one_eq_mod]
  show IntKind.i64.wrap ((BitVec.ofInt 64 n &&& BitVec.ofInt 64 15).toNat : Nat) = n % 16
  rw [key, IntKind.wrap_i64]
  omega
end Go.Proofs.YtkhpmmmildcceaaGreat
