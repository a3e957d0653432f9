/- What the law keeps beside an index. -/
import Derived.Test.YtgjeobmbfeinnaaWit
namespace Go.Proofs.Ytgjeobmbfeinnaa
open Go.ChangeShapes Go.WideShapes Go.RowKit
set_option linter.unusedVariables false
set_option maxRecDepth 100000

/-- The law's own find. -/
def fnd (m : List Pr) (v : Val) : List Int := m.foldl (fun out p => if p.v = v then ins p.n out else out) []
theorem fnd_fold (v : Val) : ∀ (m : List Pr) (out : List Int), Rise out → m.Nodup → (∀ x, x ∈ out → (⟨v, x⟩ : Pr) ∉ m) → Rise (m.foldl (fun out p => if p.v = v then ins p.n out else out) out) ∧ ∀ x, x ∈ m.foldl (fun out p => if p.v = v then ins p.n out else out) out ↔ x ∈ out ∨ (⟨v, x⟩ : Pr) ∈ m
  | [], out, h, _, _ => ⟨h, fun x => by simp⟩
  | p :: m, out, h, hn, hd => by
    obtain ⟨hn1, hn2⟩ := List.nodup_cons.1 hn
    rw [List.foldl_cons]
    by_cases e : p.v = v
    · rw [if_pos e]
      have hp : (⟨v, p.n⟩ : Pr) = p := by obtain ⟨a, b⟩ := p; simp only at e; subst e; rfl
      have hno : p.n ∉ out := fun q => hd _ q (by rw [hp]; exact List.mem_cons_self ..)
      obtain ⟨r1, r2⟩ := fnd_fold v m (ins p.n out) (rise_ins h hno) hn2 (fun x hx => by
        rcases (mem_ins p.n x out).1 hx with q | q
        · subst q; rw [hp]; exact hn1
        · exact fun q' => hd x q (List.mem_cons_of_mem _ q'))
      refine ⟨r1, fun x => ?_⟩
      rw [r2, mem_ins, List.mem_cons]
      constructor
      · rintro ((q | q) | q)
        · subst q; exact .inr (.inl hp)
        · exact .inl q
        · exact .inr (.inr q)
      · rintro (q | q | q)
        · exact .inl (.inr q)
        · exact .inl (.inl (by rw [← q]))
        · exact .inr q
    · rw [if_neg e]
      obtain ⟨r1, r2⟩ := fnd_fold v m out h hn2 (fun x hx q => hd x hx (List.mem_cons_of_mem _ q))
      refine ⟨r1, fun x => ?_⟩
      rw [r2, List.mem_cons]
      constructor
      · rintro (q | q)
        · exact .inl q
        · exact .inr (.inr q)
      · rintro (q | q | q)
        · exact .inl q
        · exact absurd (by rw [← q]) e
        · exact .inr q
/-- An index has just the pairs that the law keeps. -/
structure Rel (F : Val → List Int) (m : List Pr) : Prop where
  rise : ∀ v, Rise (F v)
  mem : ∀ v x, x ∈ F v ↔ (⟨v, x⟩ : Pr) ∈ m
  one : m.Nodup
theorem Rel.fnd {F : Val → List Int} {m : List Pr} (h : Rel F m) (v : Val) : fnd m v = F v := by
  obtain ⟨r1, r2⟩ := fnd_fold v m [] List.Pairwise.nil h.one (fun x hx => by simp at hx)
  refine rise_ext r1 (h.rise v) (fun x => ?_)
  rw [h.mem]
  have := r2 x
  simp only [List.not_mem_nil, false_or] at this
  exact this
theorem Rel.nil : Rel (fun _ => []) [] := ⟨fun _ => List.Pairwise.nil, fun v x => by simp, List.nodup_nil⟩
/-- The law's own does. -/
def dosW (m : List Pr) (p : Pr) : List Pr := if p ∉ m ∧ may p.v then m ++ [p] else m
def dosO (m : List Pr) (p : Pr) : List Pr := m.filter (fun q => decide (q ≠ p))
theorem Rel.with {F : Val → List Int} {m : List Pr} (h : Rel F m) (x : Val) (n : Int) : Rel (wF F x n) (dosW m ⟨x, n⟩) ∧ wC F x n m.length = (dosW m ⟨x, n⟩).length := by
  have hiff : isNew F x n ↔ ((⟨x, n⟩ : Pr) ∉ m ∧ may x) := by
    unfold isNew
    rw [h.mem]
    exact ⟨fun q => ⟨q.2, q.1⟩, fun q => ⟨q.2, q.1⟩⟩
  unfold wF wC dosW
  by_cases c : isNew F x n
  · have c' := hiff.1 c
    rw [if_pos c, if_pos c, if_pos c']
    refine ⟨⟨fun v => ?_, fun v y => ?_, ?_⟩, by rw [List.length_append]; rfl⟩
    · by_cases e : v = x
      · subst e; rw [upd_same]; exact rise_ins (h.rise v) c.2
      · rw [upd_other _ _ e]; exact h.rise v
    · rw [List.mem_append, List.mem_singleton]
      by_cases e : v = x
      · subst e
        rw [upd_same, mem_ins, h.mem]
        constructor
        · rintro (q | q)
          · subst q; exact .inr rfl
          · exact .inl q
        · rintro (q | q)
          · exact .inr q
          · exact .inl (by cases q; rfl)
      · rw [upd_other _ _ e, h.mem]
        constructor
        · exact fun q => .inl q
        · rintro (q | q)
          · exact q
          · exact absurd (by cases q; rfl) e
    · rw [List.nodup_append]
      refine ⟨h.one, by simp, fun a ha b hb => ?_⟩
      rw [List.mem_singleton] at hb
      subst hb
      exact fun q => c'.1 (q ▸ ha)
  · rw [if_neg c, if_neg c, if_neg (fun q => c (hiff.2 q))]
    exact ⟨h, rfl⟩
theorem filter_one : ∀ (m : List Pr) (p : Pr), m.Nodup → p ∈ m → (m.filter (fun q => decide (q ≠ p))).length + 1 = m.length
  | [], p, _, h => by simp at h
  | a :: m, p, hn, h => by
    obtain ⟨hn1, hn2⟩ := List.nodup_cons.1 hn
    by_cases e : a = p
    · subst e
      rw [List.filter_cons_of_neg (by simp), List.filter_eq_self.2 (fun q hq => by simp; exact fun e => hn1 (e ▸ hq)), List.length_cons]
    · rw [List.filter_cons_of_pos (by simpa using e), List.length_cons, List.length_cons, filter_one m p hn2 (by
        rcases List.mem_cons.1 h with q | q
        · exact absurd q.symm e
        · exact q)]
theorem Rel.wo {F : Val → List Int} {m : List Pr} (h : Rel F m) (x : Val) (n : Int) : Rel (oF F x n) (dosO m ⟨x, n⟩) ∧ oC F x n m.length = (dosO m ⟨x, n⟩).length := by
  unfold oF oC dosO
  by_cases c : n ∈ F x
  · have c' := (h.mem x n).1 c
    rw [if_pos c, if_pos c]
    refine ⟨⟨fun v => ?_, fun v y => ?_, List.Nodup.sublist List.filter_sublist h.one⟩, ?_⟩
    · by_cases e : v = x
      · subst e; rw [upd_same]; exact rise_del (h.rise v)
      · rw [upd_other _ _ e]; exact h.rise v
    · rw [List.mem_filter]
      by_cases e : v = x
      · subst e
        rw [upd_same, mem_del (h.rise v) c, h.mem]
        simp only [ne_eq, decide_not, Bool.not_eq_eq_eq_not, Bool.not_true, decide_eq_false_iff_not, Pr.mk.injEq, true_and]
        exact ⟨fun q => ⟨q.2, q.1⟩, fun q => ⟨q.2, q.1⟩⟩
      · rw [upd_other _ _ e, h.mem]
        simp only [ne_eq, decide_not, Bool.not_eq_eq_eq_not, Bool.not_true, decide_eq_false_iff_not, Pr.mk.injEq]
        exact ⟨fun q => ⟨q, fun q' => e q'.1⟩, fun q => q.1⟩
    · have := filter_one m ⟨x, n⟩ h.one c'
      omega
  · have c' : (⟨x, n⟩ : Pr) ∉ m := fun q => c ((h.mem x n).2 q)
    have e : m.filter (fun q => decide (q ≠ (⟨x, n⟩ : Pr))) = m := List.filter_eq_self.2 (fun q hq => by simp; exact fun e => c' (e ▸ hq))
    rw [if_neg c, if_neg c, e]
    exact ⟨h, rfl⟩
/-- As many buckets as the law counts. -/
structure Bu (most buckets c nb : Nat) : Prop where
  b : buckets = 8 * nb
  le : c ≤ most
  top : most ≤ 4 * buckets
  z : nb = 0 ↔ most = 0
end Go.Proofs.Ytgjeobmbfeinnaa
