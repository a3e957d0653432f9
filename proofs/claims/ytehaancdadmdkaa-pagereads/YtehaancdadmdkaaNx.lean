/- What comes of a Put. -/
import Derived.Test.YtehaancdadmdkaaRp
namespace Go.Proofs.Ytehaancdadmdkaa
open Go.ChangeShapes Go.WideShapes Go.ChangeAt Go.RowKit
set_option linter.unusedVariables false
set_option maxRecDepth 100000

def Blk (w : World) (g : Nat) (t : TypeId) (C : List Value) : Prop := w.heap[g]? = some (.cells C.toArray t (0, 0))
theorem Blk.cell {w : World} {g : Nat} {t : TypeId} {C : List Value} (h : Blk w g t C) {i : Nat} {u : Value} (hu : C[i]? = some u) : w.cell? ⟨g, i, none⟩ = some u := by
  have h' : w.heap[g]? = some (.cells C.toArray t (0, 0)) := h
  simp [World.cell?, h', hu]
theorem Blk.fz {w : World} {g : Nat} {t : TypeId} {C : List Value} (h : Blk w g t C) (j : Nat) : w.frozen? ⟨g, j, none⟩ = false := frozen_of_row w g j C.toArray t h
theorem Blk.lt {w : World} {g : Nat} {t : TypeId} {C : List Value} (h : Blk w g t C) : g < w.heap.size := (Array.getElem?_eq_some_iff.1 h).1
theorem Blk.far {w w' : World} {g : Nat} {t : TypeId} {C : List Value} (h : Blk w g t C) (e : w'.heap[g]? = w.heap[g]?) : Blk w' g t C := by unfold Blk at *; rw [e]; exact h
theorem Blk.new (w : World) (t : TypeId) (C : List Value) : Blk (w.alloc (.cells C.toArray t)) w.heap.size t C := by
  show (w.heap.push _)[w.heap.size]? = _
  rw [Array.getElem?_push_size]
theorem Blk.set {w : World} {g : Nat} {t : TypeId} {C : List Value} (h : Blk w g t C) (i : Nat) (u : Value) : Blk (w.setCell ⟨g, i, none⟩ u) g t (C.set i u) := by
  have := heap_setCell_same w g i C.toArray t u h
  unfold Blk
  rw [this]
  simp
theorem Blk.kept {F : Nat → Prop} {w w' : World} {g : Nat} {t : TypeId} {C : List Value} (h : Blk w g t C) (k : Kept F w w') (hn : ¬ F g) : Blk w' g t C := h.far (k.block g h.lt hn)
theorem Blk.step {w w' : World} {g : Nat} {t : TypeId} {C : List Value} (h : Blk w g t C) (k : Kept (fun _ => False) w w') : Blk w' g t C := h.kept k (fun z => z)
theorem Blk.at_cell {w : World} {g : Nat} {t : TypeId} {C : List Value} (h : Blk w g t C) {j : Nat} {u : Value} (hu : w.cell? ⟨g, j, none⟩ = some u) : u ∈ C := by
  have h' : w.heap[g]? = some (.cells C.toArray t (0, 0)) := h
  have : C[j]? = some u := by simpa [World.cell?, h'] using hu
  exact List.mem_of_getElem? this
/-- Cells stay where a block that holds no text is written. -/
theorem Sl.off {w w' : World} {B : Nat} {v : Value} {l : List Cel} (h : Sl cv 2 w v l) (hB : ∀ j s, w.cell? ⟨B, j, none⟩ ≠ some (.string s)) (far : ∀ k, k < w.heap.size → k ≠ B → w'.heap[k]? = w.heap[k]?) : Sl cv 2 w' v l := by
  obtain ⟨a, c, e, hr, h3, h4⟩ := h
  refine ⟨a, c, e, fun hne => ?_, h3, h4⟩
  obtain ⟨b, o, e1, hc⟩ := hr hne
  have hb : b ≠ B := by
    rintro rfl
    obtain ⟨x, l, rfl⟩ := List.exists_cons_of_ne_nil hne
    exact hB _ _ (hc 0 x rfl 0 _ rfl)
  refine ⟨b, o, e1, fun i x hx j u hu => ?_⟩
  have hcell := hc i x hx j u hu
  rw [World.cell?_of_block (w := w) (far b (World.block_lt_of_cell? w _ hcell) hb)]
  exact hcell
theorem Pg.nostr {w : World} {p : Nat} {B : List UInt8} (h : Pg w p B) (j : Nat) (s : ByteArray) : w.cell? ⟨p, j, none⟩ ≠ some (.string s) := fun e => by
  rw [cell_of_row w p j _ 58 (0, 0) h.blk] at e
  have : (bv B)[j]? = some (.string s) := by simpa using e
  obtain ⟨x, _, hx⟩ := List.mem_map.1 (List.mem_of_getElem? this)
  cases hx
theorem Blk.nostr {w : World} {g : Nat} {t : TypeId} {k : Int} {a : Option Addr} {n c : Nat} (h : Blk w g t [.int .i64 k, .slice a n c]) (j : Nat) (s : ByteArray) : w.cell? ⟨g, j, none⟩ ≠ some (.string s) := fun e => by
  have := h.at_cell e
  simp at this
/-- Cells stay where a page is written. -/
theorem Sl.page {w w' : World} {p : Nat} {B : List UInt8} {v : Value} {l : List Cel} (h : Sl cv 2 w v l) (g : Pg w p B) (k : Kept (fun i => i = p) w w') : Sl cv 2 w' v l := h.off g.nostr (fun i hi hn => k.block i hi hn)
theorem Sl.box {w w' : World} {b : Nat} {t : TypeId} {n : Int} {a : Option Addr} {m c : Nat} {v : Value} {l : List Cel} (h : Sl cv 2 w v l) (g : Blk w b t [.int .i64 n, .slice a m c]) (k : Kept (fun i => i = b) w w') : Sl cv 2 w' v l := h.off g.nostr (fun i hi hn => k.block i hi hn)
theorem ris_pw (cs : List Cel) : ris cs ↔ cs.Pairwise (fun a b => Op.bytesLess a.1 b.1 = true) := ⟨fun h => List.pairwise_iff_getElem.2 (fun i j hi hj q => h i j hi hj q), fun h i j hi hj q => List.pairwise_iff_getElem.1 h i j hi hj q⟩
theorem okC_fit {cs : List Cel} (h : okC cs) : cs.length ≤ 124 ∧ tot cs ≤ 248 := by have := h.2; omega
/-- What comes of a Put: the code, and the cells behind it. -/
def NX (cs : List Cel) (key val : ByteArray) (g : Nat) (cs2 : List Cel) : Prop :=
  (g = 1 ∧ ¬ mayC key val ∧ cs2 = cs) ∨ (mayC key val ∧ ∃ k b, FindO cs key.data.toList k b ∧
    ((g = 2 ∧ 256 < 8 + 2 * (putC cs k (if b then k + 1 else k) (key.data.toList, val.data.toList)).length + tot (putC cs k (if b then k + 1 else k) (key.data.toList, val.data.toList)) ∧ cs2 = cs) ∨
     (g = 0 ∧ 8 + 2 * (putC cs k (if b then k + 1 else k) (key.data.toList, val.data.toList)).length + tot (putC cs k (if b then k + 1 else k) (key.data.toList, val.data.toList)) ≤ 256 ∧ cs2 = putC cs k (if b then k + 1 else k) (key.data.toList, val.data.toList))))
theorem NX.same {cs cs2 : List Cel} {key val : ByteArray} {g : Nat} (h : NX cs key val g cs2) (hg : g ≠ 0) : cs2 = cs := by
  rcases h with ⟨_, _, h⟩ | ⟨_, k, b, _, ⟨_, _, h⟩ | ⟨h, _⟩⟩
  · exact h
  · exact h
  · exact absurd h hg
theorem NX.le {cs cs2 : List Cel} {key val : ByteArray} {g : Nat} (h : NX cs key val g cs2) : g ≤ 2 := by
  rcases h with ⟨h, _, _⟩ | ⟨_, k, b, _, ⟨h, _, _⟩ | ⟨h, _⟩⟩ <;> omega
theorem NX.uniq {cs cs2 cs3 : List Cel} {key val : ByteArray} {g f : Nat} (h : NX cs key val g cs2) (h' : NX cs key val f cs3) : g = f ∧ cs2 = cs3 := by
  rcases h with ⟨h1, h2, h3⟩ | ⟨h2, k, b, hf, h⟩
  · rcases h' with ⟨g1, g2, g3⟩ | ⟨g2, _⟩
    · exact ⟨by omega, by rw [h3, g3]⟩
    · exact absurd g2 h2
  · rcases h' with ⟨g1, g2, g3⟩ | ⟨g2, k', b', hf', h'⟩
    · exact absurd h2 g2
    · obtain ⟨rfl, rfl⟩ := hf.uniq hf'
      rcases h with ⟨h1, h3, h4⟩ | ⟨h1, h3, h4⟩ <;> rcases h' with ⟨g1, g3, g4⟩ | ⟨g1, g3, g4⟩
      · exact ⟨by omega, by rw [h4, g4]⟩
      · omega
      · omega
      · exact ⟨by omega, by rw [h4, g4]⟩
theorem NX.ok {cs cs2 : List Cel} {key val : ByteArray} {g : Nat} (h : NX cs key val g cs2) (hok : okC cs) (hr : ris cs) : okC cs2 ∧ ris cs2 := by
  rcases h with ⟨_, _, h⟩ | ⟨hm, k, b, hf, ⟨_, _, h⟩ | ⟨_, hz, h⟩⟩
  · rw [h]; exact ⟨hok, hr⟩
  · rw [h]; exact ⟨hok, hr⟩
  · subst h
    obtain ⟨r, hrr⟩ : ∃ r, (if b = true then k + 1 else k) = r := ⟨_, rfl⟩
    rw [hrr] at hz ⊢
    have lk : key.data.toList.length = key.size := by simp
    have lv : val.data.toList.length = val.size := by simp
    constructor
    · refine ⟨fun c hc => ?_, hz⟩
      unfold putC at hc
      rcases List.mem_append.1 hc with q | q
      · exact hok.1 c (List.mem_of_mem_take q)
      · rcases List.mem_append.1 q with q | q
        · rw [List.mem_singleton.1 q]
          have := hm
          unfold mayC at this
          unfold csz
          simp only [lk, lv]
          omega
        · exact hok.1 c (List.mem_of_mem_drop q)
    · rw [ris_pw] at hr ⊢
      have hk := hf.1
      have hrk : k ≤ r := by rw [← hrr]; split <;> omega
      have ha : ∀ x, x ∈ cs.take k → Op.bytesLess x.1 key.data.toList = true := fun x hx => by
        obtain ⟨i, hi, rfl⟩ := List.getElem_of_mem hx
        rw [List.length_take] at hi
        rw [List.getElem_take]
        exact hf.2.1 i (by omega) (by omega)
      have hd : ∀ x, x ∈ cs.drop r → Op.bytesLess key.data.toList x.1 = true := fun x hx => by
        obtain ⟨i, hi, rfl⟩ := List.getElem_of_mem hx
        rw [List.length_drop] at hi
        rw [List.getElem_drop]
        have hkl : k < cs.length := by omega
        have h1 := hf.2.2.1 k hkl (Nat.le_refl _)
        cases b with
        | true =>
          obtain ⟨_, e⟩ := hf.2.2.2.1 rfl
          have hr1 : r = k + 1 := by rw [← hrr]; rfl
          have := (ris_pw cs).2 hr k (r + i) hkl (by omega) (by omega)
          rw [e] at this
          exact this
        | false =>
          have hne : ¬ cs[k].1 = key.data.toList := fun e => by
            have := hf.2.2.2.2 ⟨hkl, e⟩
            cases this
          have h2 : Op.bytesLess key.data.toList cs[k].1 = true := by
            cases q : Op.bytesLess key.data.toList cs[k].1 with
            | true => rfl
            | false => exact absurd (less_total _ _ h1 q) hne
          rcases Nat.lt_or_eq_of_le (show k ≤ r + i by omega) with q | q
          · exact less_trans _ _ _ h2 ((ris_pw cs).2 hr k (r + i) hkl (by omega) q)
          · have e : cs[r + i]'(by omega) = cs[k] := by congr 1; exact q.symm
            rw [e]; exact h2
      unfold putC
      rw [List.pairwise_append, List.pairwise_append]
      refine ⟨hr.sublist (List.take_sublist _ _), ⟨List.pairwise_singleton _ _, hr.sublist (List.drop_sublist _ _), fun a q b' hb => ?_⟩, fun a q b' hb => ?_⟩
      · rw [List.mem_singleton.1 q]; exact hd b' hb
      · rcases List.mem_append.1 hb with z | z
        · rw [List.mem_singleton.1 z]; exact ha a q
        · exact less_trans _ _ _ (ha a q) (hd b' z)
/-- Put, of the program. -/
theorem pputN_is {w : World} {p : Nat} {kd : UInt8} {cs : List Cel} (h : Pg w p (lay kd cs)) (hok : okC cs) (hr : ris cs) (hkd : kd.toNat ≠ 0) (key val : ByteArray) (hks : key.size ≤ 1000) (hvs : val.size ≤ 1000) : Calls Try.prog 24 #[.pointer (some ⟨p, 0, none⟩), .string key, .string val] w fun e w' => ∃ (g : Nat) (cs2 : List Cel), e = .returned (.int .i64 (g : Int)) ∧ NX cs key val g cs2 ∧ Pg w' p (lay kd cs2) ∧ Kept (fun i => i = p) w w' := by
  refine (pput_is h hok hr hkd key val (by omega) (by omega)).mono fun e w' hE => ?_
  rcases hE with ⟨hm, rfl, g1, g2⟩ | ⟨hm, k, b, hf, ⟨hz, rfl, g1, g2⟩ | ⟨hz, rfl, g1, g2⟩⟩
  · exact ⟨1, cs, rfl, .inl ⟨rfl, hm, rfl⟩, g1, g2.mono (fun _ z => z.elim)⟩
  · exact ⟨2, cs, rfl, .inr ⟨hm, k, b, hf, .inl ⟨rfl, hz, rfl⟩⟩, g1, g2.mono (fun _ z => z.elim)⟩
  · exact ⟨0, _, rfl, .inr ⟨hm, k, b, hf, .inr ⟨rfl, hz, rfl⟩⟩, g1, g2⟩
/-- Put, of the document. -/
theorem rputN_is {w : World} (kd : Int) (a : Option Addr) (N c : Nat) (cs : List Cel) (hN : cs.length = N) (h : Sl cv 2 w (.slice a N c) cs) (hok : okC cs) (hr : ris cs) (key val : ByteArray) (hk : key.size ≤ 1000) (hv : val.size ≤ 1000) : Calls Try.prog 34 #[rpg kd (.slice a N c), .string key, .string val] w fun e w' => ∃ (g : Nat) (cs2 : List Cel) (a2 : Option Addr) (c2 : Nat), e = .returned (.tuple #[rpg kd (.slice a2 cs2.length c2), .int .i64 (g : Int)]) ∧ NX cs key val g cs2 ∧ Sl cv 2 w' (.slice a2 cs2.length c2) cs2 ∧ Kept (fun _ => False) w w' := by
  have hf := okC_fit hok
  refine (rput_is kd a N c cs hN h (by omega) (by omega) hr key val hk hv).mono fun e w' hE => ?_
  rcases hE with ⟨hm, rfl, g2⟩ | ⟨hm, k, b, hf, ⟨hz, rfl, g2⟩ | ⟨hz, u, rfl, g1, g2⟩⟩
  · exact ⟨1, cs, a, c, by rw [hN]; rfl, .inl ⟨rfl, hm, rfl⟩, by rw [hN]; exact h.step cv_ne g2, g2⟩
  · exact ⟨2, cs, a, c, by rw [hN]; rfl, .inr ⟨hm, k, b, hf, .inl ⟨rfl, hz, rfl⟩⟩, by rw [hN]; exact h.step cv_ne g2, g2⟩
  · obtain ⟨a2, c2, rfl⟩ := g1.shape
    exact ⟨0, _, a2, c2, rfl, .inr ⟨hm, k, b, hf, .inr ⟨rfl, hz, rfl⟩⟩, g1, g2⟩
end Go.Proofs.Ytehaancdadmdkaa
