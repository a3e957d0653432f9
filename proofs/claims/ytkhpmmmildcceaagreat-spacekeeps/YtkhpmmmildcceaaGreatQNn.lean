/- What Put lets a page be. -/
import Derived.Test.YtkhpmmmildcceaaGreatQRs
import Derived.Test.YtkhpmmmildcceaaGreatQBk
namespace Go.Proofs.YtkhpmmmildcceaaGreat
open Go.ChangeShapes Go.WideShapes Go.ChangeAt Go.RowKit
set_option linter.unusedVariables false
set_option maxRecDepth 100000

theorem ris0 : ris [] := fun i j hi _ _ => absurd hi (Nat.not_lt_zero _)
theorem ris1 (c : Cel) : ris [c] := fun i j hi hj h => by simp at hi hj; omega
theorem ris_pw (cs : List Cel) : ris cs ↔ cs.Pairwise (fun a b => Op.bytesLess a.1 b.1 = true) := ⟨fun h => List.pairwise_iff_getElem.2 (fun i j hi hj q => h i j hi hj q), fun h i j hi hj q => List.pairwise_iff_getElem.1 h i j hi hj q⟩
theorem okC_fit {cs : List Cel} (h : okC cs) : cs.length ≤ 124 ∧ tot cs ≤ 248 := by have := h.2; omega
def NX (cs : List Cel) (key val : ByteArray) (g : Nat) (cs2 : List Cel) : Prop :=
  (g = 1 ∧ ¬ mayC key val ∧ cs2 = cs) ∨ (mayC key val ∧ ∃ k b, FindO cs key.data.toList k b ∧
    ((g = 2 ∧ 256 < 8 + 2 * (putC cs k (if b then k + 1 else k) (key.data.toList, val.data.toList)).length + tot (putC cs k (if b then k + 1 else k) (key.data.toList, val.data.toList)) ∧ cs2 = cs) ∨
     (g = 0 ∧ 8 + 2 * (putC cs k (if b then k + 1 else k) (key.data.toList, val.data.toList)).length + tot (putC cs k (if b then k + 1 else k) (key.data.toList, val.data.toList)) ≤ 256 ∧ cs2 = putC cs k (if b then k + 1 else k) (key.data.toList, val.data.toList))))
theorem NX.same {cs cs2 : List Cel} {key val : ByteArray} {g : Nat} (h : NX cs key val g cs2) (hg : g ≠ 0) : cs2 = cs := by
  rcases h with ⟨_, _, h⟩ | ⟨_, k, b, _, ⟨_, _, h⟩ | ⟨h, _⟩⟩
  · exact h
  · exact h
  · exact absurd h hg
theorem NX.le {cs cs2 : List Cel} {key val : ByteArray} {g : Nat} (h : NX cs key val g cs2) : g ≤ 2 := by
  rcases h with ⟨h, _, _⟩ | ⟨_, k, b, _, ⟨h, _, _⟩ | ⟨h, _⟩⟩ <;> omega
theorem NX.ok {cs cs2 : List Cel} {key val : ByteArray} {g : Nat} (h : NX cs key val g cs2) (hok : okC cs) (hr : ris cs) : okC cs2 ∧ ris cs2 := by
  rcases h with ⟨_, _, h⟩ | ⟨hm, k, b, hf, ⟨_, _, h⟩ | ⟨_, hz, h⟩⟩
  · rw [h]; exact ⟨hok, hr⟩
  · rw [h]; exact ⟨hok, hr⟩
  · subst h
    obtain ⟨r, hrr⟩ : ∃ r, (if b = true then k + 1 else k) = r := ⟨_, rfl⟩
    rw [hrr] at hz ⊢
    have lk : key.data.toList.length = key.size := by simp
    have lv : val.data.toList.length = val.size := by simp
    constructor
    · refine ⟨fun c hc => ?_, hz⟩
      unfold putC at hc
      rcases List.mem_append.1 hc with q | q
      · exact hok.1 c (List.mem_of_mem_take q)
      · rcases List.mem_append.1 q with q | q
        · rw [List.mem_singleton.1 q]
          have := hm
          unfold mayC at this
          unfold csz
          simp only [lk, lv]
          omega
        · exact hok.1 c (List.mem_of_mem_drop q)
    · rw [ris_pw] at hr ⊢
      have hk := hf.1
      have hrk : k ≤ r := by rw [← hrr]; split <;> omega
      have ha : ∀ x, x ∈ cs.take k → Op.bytesLess x.1 key.data.toList = true := fun x hx => by
        obtain ⟨i, hi, rfl⟩ := List.getElem_of_mem hx
        rw [List.length_take] at hi
        rw [List.getElem_take]
        exact hf.2.1 i (by omega) (by omega)
      have hd : ∀ x, x ∈ cs.drop r → Op.bytesLess key.data.toList x.1 = true := fun x hx => by
        obtain ⟨i, hi, rfl⟩ := List.getElem_of_mem hx
        rw [List.length_drop] at hi
        rw [List.getElem_drop]
        have hkl : k < cs.length := by omega
        have h1 := hf.2.2.1 k hkl (Nat.le_refl _)
        cases b with
        | true =>
          obtain ⟨_, e⟩ := hf.2.2.2.1 rfl
          have hr1 : r = k + 1 := by rw [← hrr]; rfl
          have := (ris_pw cs).2 hr k (r + i) hkl (by omega) (by omega)
          rw [e] at this
          exact this
        | false =>
          have hne : ¬ cs[k].1 = key.data.toList := fun e => by
            have := hf.2.2.2.2 ⟨hkl, e⟩
            cases this
          have h2 : Op.bytesLess key.data.toList cs[k].1 = true := by
            cases q : Op.bytesLess key.data.toList cs[k].1 with
            | true => rfl
            | false => exact absurd (less_total _ _ h1 q) hne
          rcases Nat.lt_or_eq_of_le (show k ≤ r + i by omega) with q | q
          · exact less_trans _ _ _ h2 ((ris_pw cs).2 hr k (r + i) hkl (by omega) q)
          · have e : cs[r + i]'(by omega) = cs[k] := by congr 1; exact q.symm
            rw [e]; exact h2
      unfold putC
      rw [List.pairwise_append, List.pairwise_append]
      refine ⟨hr.sublist (List.take_sublist _ _), ⟨List.pairwise_singleton _ _, hr.sublist (List.drop_sublist _ _), fun a q b' hb => ?_⟩, fun a q b' hb => ?_⟩
      · rw [List.mem_singleton.1 q]; exact hd b' hb
      · rcases List.mem_append.1 hb with z | z
        · rw [List.mem_singleton.1 z]; exact ha a q
        · exact less_trans _ _ _ (ha a q) (hd b' z)
theorem pputN_is {w : World} {p : Nat} {kd : UInt8} {cs : List Cel} (h : Pg w p (lay kd cs)) (hok : okC cs) (hr : ris cs) (hkd : kd.toNat ≠ 0) (key val : ByteArray) (hks : key.size ≤ 1000) (hvs : val.size ≤ 1000) : Calls Tryz.prog 80 #[.pointer (some ⟨p, 0, none⟩), .string key, .string val] w fun e w' => ∃ (g : Nat) (cs2 : List Cel), e = .returned (.int .i64 (g : Int)) ∧ NX cs key val g cs2 ∧ Pg w' p (lay kd cs2) ∧ Kept (fun i => i = p) w w' := by
  refine (pput_is h hok hr hkd key val (by omega) (by omega)).mono fun e w' hE => ?_
  rcases hE with ⟨hm, rfl, g1, g2⟩ | ⟨hm, k, b, hf, ⟨hz, rfl, g1, g2⟩ | ⟨hz, rfl, g1, g2⟩⟩
  · exact ⟨1, cs, rfl, .inl ⟨rfl, hm, rfl⟩, g1, g2.mono (fun _ z => z.elim)⟩
  · exact ⟨2, cs, rfl, .inr ⟨hm, k, b, hf, .inl ⟨rfl, hz, rfl⟩⟩, g1, g2.mono (fun _ z => z.elim)⟩
  · exact ⟨0, _, rfl, .inr ⟨hm, k, b, hf, .inr ⟨rfl, hz, rfl⟩⟩, g1, g2⟩
end Go.Proofs.YtkhpmmmildcceaaGreat
