/- The bytes of cells. -/
import Derived.Test.YtkhpmmmildcceaaGreatQPt
namespace Go.Proofs.YtkhpmmmildcceaaGreat
open Go.ChangeShapes Go.WideShapes Go.ChangeAt Go.RowKit
set_option linter.unusedVariables false
set_option maxRecDepth 100000
set_option maxRecDepth 100000

/-- A cell: its key, its value. -/
abbrev Cel := List UInt8 × List UInt8
def csz (c : Cel) : Nat := c.1.length + c.2.length
def tot : List Cel → Nat
  | [] => 0
  | c :: r => csz c + tot r
def bod : List Cel → List UInt8
  | [] => []
  | c :: r => bod r ++ (c.1 ++ c.2)
def pl (e : Nat) : List Cel → List UInt8
  | [] => []
  | c :: r => UInt8.ofNat (e - csz c) :: UInt8.ofNat c.1.length :: pl (e - csz c) r
def hd (kd : UInt8) (n t : Nat) : List UInt8 := [kd, UInt8.ofNat n, UInt8.ofNat (t % 256), UInt8.ofNat (t / 256), 0, 0, 0, 0]
/-- A page's bytes, with noughts in place of the sum. -/
def lay (kd : UInt8) (cs : List Cel) : List UInt8 := hd kd cs.length (tot cs) ++ (pl 256 cs ++ (zs (248 - 2 * cs.length - tot cs) ++ bod cs))
/-- Cells that may be, and have room. -/
def okC (cs : List Cel) : Prop := (∀ c, c ∈ cs → 1 ≤ c.1.length ∧ c.1.length ≤ 80 ∧ csz c ≤ 100) ∧ 8 + 2 * cs.length + tot cs ≤ 256
theorem tot_append (a b : List Cel) : tot (a ++ b) = tot a + tot b := by
  induction a with
  | nil => show tot b = 0 + tot b; omega
  | cons c r ih => show csz c + tot (r ++ b) = (csz c + tot r) + tot b; omega
theorem bod_append (a b : List Cel) : bod (a ++ b) = bod b ++ bod a := by
  induction a with
  | nil => show bod b = bod b ++ []; rw [List.append_nil]
  | cons c r ih => show bod (r ++ b) ++ _ = bod b ++ (bod r ++ _); rw [ih, List.append_assoc]
theorem bod_len (a : List Cel) : (bod a).length = tot a := by
  induction a with
  | nil => rfl
  | cons c r ih => show (bod r ++ (c.1 ++ c.2)).length = csz c + tot r; rw [List.length_append, List.length_append, ih]; unfold csz; omega
theorem pl_append (e : Nat) (a b : List Cel) : pl e (a ++ b) = pl e a ++ pl (e - tot a) b := by
  induction a generalizing e with
  | nil => rfl
  | cons c r ih =>
    show _ :: _ :: pl (e - csz c) (r ++ b) = _ :: _ :: (pl (e - csz c) r ++ pl (e - (csz c + tot r)) b)
    rw [ih, Nat.sub_sub]
theorem pl_len (e : Nat) (a : List Cel) : (pl e a).length = 2 * a.length := by
  induction a generalizing e with
  | nil => rfl
  | cons c r ih => show (pl (e - csz c) r).length + 1 + 1 = 2 * (r.length + 1); rw [ih]; omega
theorem zs_add (a b : Nat) : zs (a + b) = zs a ++ zs b := by simp [zs, List.replicate_append_replicate]
theorem lay_len (kd : UInt8) (cs : List Cel) (h : 8 + 2 * cs.length + tot cs ≤ 256) : (lay kd cs).length = 256 := by
  unfold lay
  rw [List.length_append, List.length_append, List.length_append, pl_len, bod_len, List.length_replicate]
  show 8 + _ = _
  omega
theorem wr_seg (A X C Y : List UInt8) (o : Nat) (ho : o = A.length) (h : X.length = Y.length) : wr (A ++ (X ++ C)) o Y = A ++ (Y ++ C) := by
  subst ho
  rw [wr_eq _ _ _ (by rw [List.length_append, List.length_append, h]; omega)]
  rw [List.take_left, ← h, ← List.drop_drop, List.drop_left, List.drop_left, List.append_assoc]
theorem tot_pos {cs : List Cel} (h : ∀ c, c ∈ cs → 1 ≤ c.1.length) (hne : cs ≠ []) : 1 ≤ tot cs := by
  cases cs with
  | nil => exact absurd rfl hne
  | cons c r => have := h c (List.mem_cons_self ..); show 1 ≤ csz c + tot r; unfold csz; omega
theorem byteAt_app (A X : List UInt8) (o i : Nat) (ho : o = A.length + i) : byteAt (A ++ X) o = byteAt X i := by
  subst ho
  unfold byteAt
  rw [List.getElem?_append_right (by omega), Nat.add_sub_cancel_left]
theorem byteAt_left (A X : List UInt8) (i : Nat) (h : i < A.length) : byteAt (A ++ X) i = byteAt A i := by
  unfold byteAt
  rw [List.getElem?_append_left h]
theorem ofNat_val (x : Nat) (h : x < 256) : (UInt8.ofNat x).toNat = x := by rw [UInt8.toNat_ofNat']; omega
/-- The place and the key's size of a cell, within its list. -/
theorem pl_at (e : Nat) (a : List Cel) (c : Cel) (b : List Cel) : pl e (a ++ c :: b) = pl e a ++ (UInt8.ofNat (e - tot a - csz c) :: UInt8.ofNat c.1.length :: pl (e - tot a - csz c) b) := pl_append e a (c :: b)
theorem hd_len (kd : UInt8) (n t : Nat) : (hd kd n t).length = 8 := rfl
theorem lay_split (kd : UInt8) (a : List Cel) (c : Cel) (b : List Cel) : lay kd (a ++ c :: b) = (hd kd (a ++ c :: b).length (tot (a ++ c :: b)) ++ pl 256 a) ++ (UInt8.ofNat (256 - tot a - csz c) :: UInt8.ofNat c.1.length :: (pl (256 - tot a - csz c) b ++ (zs (248 - 2 * (a ++ c :: b).length - tot (a ++ c :: b)) ++ bod (a ++ c :: b)))) := by
  unfold lay
  rw [pl_at]
  simp only [List.append_assoc, List.cons_append]
theorem place_at (kd : UInt8) (a : List Cel) (c : Cel) (b : List Cel) (h : okC (a ++ c :: b)) : byteAt (lay kd (a ++ c :: b)) (8 + 2 * a.length) = 256 - tot a - csz c ∧ byteAt (lay kd (a ++ c :: b)) (9 + 2 * a.length) = c.1.length := by
  have h1 := h.1 c (by simp)
  have h2 := h.2
  rw [tot_append] at h2
  have h3 : tot (c :: b) = csz c + tot b := rfl
  have hl : (hd kd (a ++ c :: b).length (tot (a ++ c :: b)) ++ pl 256 a).length = 8 + 2 * a.length := by rw [List.length_append, pl_len, hd_len]
  rw [lay_split]
  constructor
  · rw [byteAt_app _ _ _ 0 (by rw [hl, Nat.add_zero])]
    show (UInt8.ofNat (256 - tot a - csz c)).toNat = _
    have : 1 ≤ csz c := by unfold csz; omega
    exact ofNat_val _ (by omega)
  · rw [byteAt_app _ _ _ 1 (by rw [hl]; omega)]
    show (UInt8.ofNat c.1.length).toNat = _
    exact ofNat_val _ (by omega)
theorem lay_kind (kd : UInt8) (cs : List Cel) : byteAt (lay kd cs) 0 = kd.toNat := rfl
theorem lay_count (kd : UInt8) (cs : List Cel) (h : okC cs) : byteAt (lay kd cs) 1 = cs.length := by
  show (UInt8.ofNat cs.length).toNat = _
  have := h.2
  exact ofNat_val _ (by omega)
theorem snoc_of {α : Type} (a : List α) (h : a ≠ []) : ∃ r x, a = r ++ [x] := ⟨a.dropLast, a.getLast h, (List.dropLast_concat_getLast h).symm⟩
theorem lay_end (kd : UInt8) (a b : List Cel) (h : okC (a ++ b)) : endB (lay kd (a ++ b)) a.length = 256 - tot a := by
  by_cases e : a = []
  · subst e; rfl
  · obtain ⟨r, x, rfl⟩ := snoc_of a e
    have hlen : (r ++ [x]).length = r.length + 1 := by simp
    unfold endB
    rw [hlen, if_neg (by omega), Nat.add_sub_cancel, List.append_assoc] at *
    have := (place_at kd r x b h).1
    rw [show r ++ ([x] ++ b) = r ++ x :: b from rfl, this, tot_append]
    show _ = 256 - (tot r + (csz x + 0))
    omega
theorem tally_lay (kd : UInt8) (x1 x2 x3 : UInt8) (R : List UInt8) (c u : Nat) (hu : 256 - endB (kd :: x1 :: x2 :: x3 :: R) c = u) : tallyB (kd :: x1 :: x2 :: x3 :: R) c = kd :: UInt8.ofNat c :: UInt8.ofNat (u % 256) :: UInt8.ofNat (u / 256) :: R := by
  unfold tallyB
  rw [hu]
  rfl
/-- Where the last of some places leads, whatever is told ahead of them and behind. -/
theorem end_of_places (H X : List UInt8) (a : List Cel) (hH : H.length = 8) (h1 : ∀ c, c ∈ a → 1 ≤ c.1.length) (h2 : tot a ≤ 256) : endB (H ++ (pl 256 a ++ X)) a.length = 256 - tot a := by
  by_cases e : a = []
  · subst e; rfl
  · obtain ⟨r, x, rfl⟩ := snoc_of a e
    have hlen : (r ++ [x]).length = r.length + 1 := by simp
    have hx := h1 x (by simp)
    have ht : tot (r ++ [x]) = tot r + (csz x + 0) := tot_append r [x]
    unfold endB
    rw [hlen, if_neg (by omega), Nat.add_sub_cancel, pl_append, byteAt_app _ _ _ (2 * r.length) (by rw [hH]), List.append_assoc, byteAt_app _ _ _ 0 (by rw [pl_len, Nat.add_zero])]
    show (UInt8.ofNat (256 - tot r - csz x)).toNat = _
    have : 1 ≤ csz x := by unfold csz; omega
    rw [ofNat_val _ (by omega), ht]
    omega
theorem lay_made (kd x1 x2 x3 : UInt8) (a : List Cel) (r : Nat) (h1 : ∀ c, c ∈ a → 1 ≤ c.1.length) (h2 : 8 + 2 * a.length + tot a ≤ 256) (hr : r = 248 - 2 * a.length - tot a) : tallyB ([kd, x1, x2, x3, 0, 0, 0, 0] ++ (pl 256 a ++ (zs r ++ bod a))) a.length = lay kd a := by
  subst hr
  have he := end_of_places [kd, x1, x2, x3, 0, 0, 0, 0] (zs (248 - 2 * a.length - tot a) ++ bod a) a rfl h1 (by omega)
  have := tally_lay kd x1 x2 x3 ([0, 0, 0, 0] ++ (pl 256 a ++ (zs (248 - 2 * a.length - tot a) ++ bod a))) a.length (tot a) (by
    have e : endB (kd :: x1 :: x2 :: x3 :: ([0, 0, 0, 0] ++ (pl 256 a ++ (zs (248 - 2 * a.length - tot a) ++ bod a)))) a.length = 256 - tot a := he
    rw [e]; omega)
  exact this
theorem okC_left {a b : List Cel} (h : okC (a ++ b)) : okC a := by
  refine ⟨fun c hc => h.1 c (by simp [hc]), ?_⟩
  have := h.2
  rw [tot_append, List.length_append] at this
  omega
theorem cut_lay (kd : UInt8) (a b : List Cel) (h : okC (a ++ b)) : cutB (lay kd (a ++ b)) a.length (a ++ b).length = lay kd a := by
  have h2 := h.2
  rw [tot_append, List.length_append] at h2
  have en : endB (lay kd (a ++ b)) (a ++ b).length = 256 - (tot a + tot b) := by
    have := lay_end kd (a ++ b) [] (by rw [List.append_nil]; exact h)
    rw [List.append_nil, tot_append] at this
    exact this
  unfold cutB
  rw [en, lay_end kd a b h]
  have ez : 256 - tot a - (256 - (tot a + tot b)) = tot b := by omega
  have ep : 8 + 2 * (a ++ b).length - (8 + 2 * a.length) = 2 * b.length := by rw [List.length_append]; omega
  rw [ez, ep]
  have e0 : lay kd (a ++ b) = ((hd kd (a ++ b).length (tot (a ++ b)) ++ (pl 256 a ++ pl (256 - tot a) b)) ++ zs (248 - 2 * (a.length + b.length) - (tot a + tot b))) ++ (bod b ++ bod a) := by
    unfold lay
    rw [pl_append, bod_append, List.length_append, tot_append]
    simp only [List.append_assoc]
  rw [e0, wr_seg _ (bod b) (bod a) (zs (tot b)) _ (by
    simp only [List.length_append, pl_len, hd_len, List.length_replicate]; omega) (by rw [bod_len, List.length_replicate])]
  have e1 : ((hd kd (a ++ b).length (tot (a ++ b)) ++ (pl 256 a ++ pl (256 - tot a) b)) ++ zs (248 - 2 * (a.length + b.length) - (tot a + tot b))) ++ (zs (tot b) ++ bod a) = (hd kd (a ++ b).length (tot (a ++ b)) ++ pl 256 a) ++ (pl (256 - tot a) b ++ (zs (248 - 2 * (a.length + b.length) - (tot a + tot b)) ++ (zs (tot b) ++ bod a))) := by simp only [List.append_assoc]
  rw [e1, wr_seg _ (pl (256 - tot a) b) _ (zs (2 * b.length)) _ (by rw [List.length_append, pl_len, hd_len]) (by rw [pl_len, List.length_replicate])]
  have e2 : (hd kd (a ++ b).length (tot (a ++ b)) ++ pl 256 a) ++ (zs (2 * b.length) ++ (zs (248 - 2 * (a.length + b.length) - (tot a + tot b)) ++ (zs (tot b) ++ bod a))) = hd kd (a ++ b).length (tot (a ++ b)) ++ (pl 256 a ++ (zs (2 * b.length + (248 - 2 * (a.length + b.length) - (tot a + tot b)) + tot b) ++ bod a)) := by
    rw [zs_add, zs_add]
    simp only [List.append_assoc]
  rw [e2]
  exact lay_made kd _ _ _ a _ (fun c hc => (h.1 c (by simp [hc])).1) (by omega) (by omega)
theorem add_lay (kd : UInt8) (a : List Cel) (k v : List UInt8) (h : okC (a ++ [(k, v)])) : tallyB (wr (wr (wr (lay kd a) (256 - tot a - (k.length + v.length)) k) (256 - tot a - v.length) v) (8 + 2 * a.length) [UInt8.ofNat (256 - tot a - (k.length + v.length)), UInt8.ofNat k.length]) (a.length + 1) = lay kd (a ++ [(k, v)]) := by
  have h2 := h.2
  rw [tot_append, List.length_append] at h2
  have hc : tot [(k, v)] = k.length + v.length := rfl
  have hl1 : ([(k, v)] : List Cel).length = 1 := rfl
  obtain ⟨r, hr⟩ : ∃ r, 248 - 2 * a.length - tot a = 2 + r + k.length + v.length := ⟨248 - 2 * a.length - tot a - 2 - k.length - v.length, by omega⟩
  have e0 : lay kd a = ((hd kd a.length (tot a) ++ (pl 256 a ++ (zs 2 ++ zs r)))) ++ (zs k.length ++ (zs v.length ++ bod a)) := by
    unfold lay
    rw [hr, zs_add, zs_add, zs_add]
    simp only [List.append_assoc]
  rw [e0, wr_seg _ (zs k.length) _ k _ (by simp only [List.length_append, pl_len, hd_len, List.length_replicate]; omega) (by rw [List.length_replicate])]
  have e1 : ((hd kd a.length (tot a) ++ (pl 256 a ++ (zs 2 ++ zs r)))) ++ (k ++ (zs v.length ++ bod a)) = ((hd kd a.length (tot a) ++ (pl 256 a ++ (zs 2 ++ zs r))) ++ k) ++ (zs v.length ++ bod a) := by simp only [List.append_assoc]
  rw [e1, wr_seg _ (zs v.length) _ v _ (by simp only [List.length_append, pl_len, hd_len, List.length_replicate]; omega) (by rw [List.length_replicate])]
  have e2 : ((hd kd a.length (tot a) ++ (pl 256 a ++ (zs 2 ++ zs r))) ++ k) ++ (v ++ bod a) = (hd kd a.length (tot a) ++ pl 256 a) ++ (zs 2 ++ (zs r ++ (k ++ (v ++ bod a)))) := by simp only [List.append_assoc]
  rw [e2, wr_seg _ (zs 2) _ [UInt8.ofNat (256 - tot a - (k.length + v.length)), UInt8.ofNat k.length] _ (by rw [List.length_append, pl_len, hd_len]) rfl]
  have e3 : (hd kd a.length (tot a) ++ pl 256 a) ++ ([UInt8.ofNat (256 - tot a - (k.length + v.length)), UInt8.ofNat k.length] ++ (zs r ++ (k ++ (v ++ bod a)))) = hd kd a.length (tot a) ++ (pl 256 (a ++ [(k, v)]) ++ (zs r ++ bod (a ++ [(k, v)]))) := by
    have eb : bod [((k, v) : Cel)] = k ++ v := rfl
    have ep : pl (256 - tot a) [((k, v) : Cel)] = [UInt8.ofNat (256 - tot a - (k.length + v.length)), UInt8.ofNat k.length] := rfl
    rw [pl_append, bod_append, eb, ep]
    simp only [List.append_assoc]
  rw [e3]
  have hl : (a ++ [((k, v) : Cel)]).length = a.length + 1 := by simp
  have := lay_made kd (UInt8.ofNat a.length) (UInt8.ofNat (tot a % 256)) (UInt8.ofNat (tot a / 256)) (a ++ [(k, v)]) r (fun c hc => (h.1 c hc).1) (by rw [tot_append, List.length_append]; exact h2) (by rw [tot_append, List.length_append, hc, hl1]; omega)
  rw [hl] at this
  exact this

theorem set_app (A : List UInt8) (x y : UInt8) (C : List UInt8) (o : Nat) (ho : o = A.length) : (A ++ x :: C).set o y = A ++ y :: C := by
  subst ho
  rw [List.set_append_right _ _ (Nat.le_refl _), Nat.sub_self]
  rfl
theorem shift_pl (A C : List UInt8) (n : Nat) (mv : Int) (hA : A.length = 8 + 2 * n) (e e' : Nat) (he : (e : Int) - mv = (e' : Int)) (b : List Cel) (h1 : ∀ c, c ∈ b → 1 ≤ c.1.length) (ht : tot b ≤ e ∧ tot b ≤ e') (he2 : e ≤ 256 ∧ e' ≤ 256) : ∀ m, m ≤ b.length → shiftB (A ++ (pl e b ++ C)) n mv m = A ++ (pl e' (b.take m) ++ (pl (e - tot (b.take m)) (b.drop m) ++ C))
  | 0, _ => by
    show A ++ (pl e b ++ C) = _
    rw [List.take_zero, List.drop_zero]
    rfl
  | m + 1, hm => by
    have ih := shift_pl A C n mv hA e e' he b h1 ht he2 m (by omega)
    obtain ⟨c, hc⟩ : ∃ c, b.drop m = c :: b.drop (m + 1) := ⟨b[m], by rw [List.drop_eq_getElem_cons (by omega)]⟩
    have hcm : c ∈ b := List.mem_of_mem_drop (by rw [hc]; exact List.mem_cons_self ..)
    have htk : b.take (m + 1) = b.take m ++ [c] := by
      have e1 : b[m]? = some c := by
        have := List.getElem?_drop (xs := b) (i := m) (j := 0)
        rw [hc] at this
        simpa using this.symm
      rw [List.take_add_one, e1]
      rfl
    have htot : tot b = tot (b.take (m + 1)) + tot (b.drop (m + 1)) := by rw [← tot_append, List.take_append_drop]
    have hta : tot (b.take (m + 1)) = tot (b.take m) + (csz c + 0) := by rw [htk]; exact tot_append _ [c]
    have hl : (A ++ pl e' (b.take m)).length = 8 + 2 * (n + m) := by
      rw [List.length_append, pl_len, List.length_take, hA]
      omega
    have hf : A ++ (pl e' (b.take m) ++ (pl (e - tot (b.take m)) (b.drop m) ++ C)) = (A ++ pl e' (b.take m)) ++ (UInt8.ofNat (e - tot (b.take m) - csz c) :: (UInt8.ofNat c.1.length :: (pl (e - tot (b.take m) - csz c) (b.drop (m + 1)) ++ C))) := by
      rw [hc]
      simp only [List.append_assoc]
      rfl
    have hc1 := h1 c hcm
    have hcz : 1 ≤ csz c := by unfold csz; omega
    show (shiftB (A ++ (pl e b ++ C)) n mv m).set (8 + 2 * (n + m)) (UInt8.ofNat (((byteAt (shiftB (A ++ (pl e b ++ C)) n mv m) (8 + 2 * (n + m)) : Int) - mv) % 256).toNat) = _
    rw [ih, hf, byteAt_app _ _ _ 0 (by rw [hl, Nat.add_zero]), set_app _ _ _ _ _ hl.symm]
    have hv : byteAt (UInt8.ofNat (e - tot (b.take m) - csz c) :: (UInt8.ofNat c.1.length :: (pl (e - tot (b.take m) - csz c) (b.drop (m + 1)) ++ C))) 0 = e - tot (b.take m) - csz c := by
      show (UInt8.ofNat (e - tot (b.take m) - csz c)).toNat = _
      exact ofNat_val _ (by omega)
    rw [hv]
    have hn : (((e - tot (b.take m) - csz c : Nat) : Int) - mv) % 256 = ((e' - tot (b.take m) - csz c : Nat) : Int) := by omega
    rw [hn, Int.toNat_natCast, htk, pl_append, List.append_assoc A]
    have ee : e - tot (b.take m ++ [c]) = e - tot (b.take m) - csz c := by rw [tot_append]; show e - (tot (b.take m) + (csz c + 0)) = _; omega
    rw [ee]
    simp only [List.append_assoc]
    rfl
theorem take_lay (kd kd' : UInt8) (a d b : List Cel) (h : okC (a ++ b)) (hd' : okC (d ++ b)) : tallyB (shiftB (wr (wr (lay kd a) (256 - tot a - tot b) (((lay kd' (d ++ b)).drop (256 - tot d - tot b)).take (tot b))) (8 + 2 * a.length) (((lay kd' (d ++ b)).drop (8 + 2 * d.length)).take (2 * b.length))) a.length ((tot a : Int) - (tot d : Int)) b.length) (a.length + b.length) = lay kd (a ++ b) := by
  have h2 := h.2
  rw [tot_append, List.length_append] at h2
  have h3 := hd'.2
  rw [tot_append, List.length_append] at h3
  have eS : ((lay kd' (d ++ b)).drop (256 - tot d - tot b)).take (tot b) = bod b := by
    have e0 : lay kd' (d ++ b) = (hd kd' (d ++ b).length (tot (d ++ b)) ++ (pl 256 (d ++ b) ++ zs (248 - 2 * (d ++ b).length - tot (d ++ b)))) ++ (bod b ++ bod d) := by
      unfold lay
      rw [bod_append]
      simp only [List.append_assoc]
    have hl : (hd kd' (d ++ b).length (tot (d ++ b)) ++ (pl 256 (d ++ b) ++ zs (248 - 2 * (d ++ b).length - tot (d ++ b)))).length = 256 - tot d - tot b := by
      simp only [List.length_append, pl_len, hd_len, List.length_replicate, tot_append]
      omega
    rw [e0, ← hl, List.drop_left, ← bod_len b, List.take_left]
  have eP : ((lay kd' (d ++ b)).drop (8 + 2 * d.length)).take (2 * b.length) = pl (256 - tot d) b := by
    have e0 : lay kd' (d ++ b) = (hd kd' (d ++ b).length (tot (d ++ b)) ++ pl 256 d) ++ (pl (256 - tot d) b ++ (zs (248 - 2 * (d ++ b).length - tot (d ++ b)) ++ bod (d ++ b))) := by
      unfold lay
      rw [pl_append]
      simp only [List.append_assoc]
    have hl : (hd kd' (d ++ b).length (tot (d ++ b)) ++ pl 256 d).length = 8 + 2 * d.length := by rw [List.length_append, pl_len, hd_len]
    rw [e0, ← hl, List.drop_left, ← pl_len (256 - tot d) b, List.take_left]
  rw [eS, eP]
  obtain ⟨r, hr⟩ : ∃ r, 248 - 2 * a.length - tot a = 2 * b.length + r + tot b := ⟨248 - 2 * a.length - tot a - 2 * b.length - tot b, by omega⟩
  have e0 : lay kd a = (hd kd a.length (tot a) ++ (pl 256 a ++ (zs (2 * b.length) ++ zs r))) ++ (zs (tot b) ++ bod a) := by
    unfold lay
    rw [hr, zs_add, zs_add]
    simp only [List.append_assoc]
  rw [e0, wr_seg _ (zs (tot b)) _ (bod b) _ (by simp only [List.length_append, pl_len, hd_len, List.length_replicate]; omega) (by rw [List.length_replicate, bod_len])]
  have e1 : (hd kd a.length (tot a) ++ (pl 256 a ++ (zs (2 * b.length) ++ zs r))) ++ (bod b ++ bod a) = (hd kd a.length (tot a) ++ pl 256 a) ++ (zs (2 * b.length) ++ (zs r ++ (bod b ++ bod a))) := by simp only [List.append_assoc]
  rw [e1, wr_seg _ (zs (2 * b.length)) _ (pl (256 - tot d) b) _ (by rw [List.length_append, pl_len, hd_len]) (by rw [List.length_replicate, pl_len])]
  rw [shift_pl (hd kd a.length (tot a) ++ pl 256 a) (zs r ++ (bod b ++ bod a)) a.length ((tot a : Int) - (tot d : Int)) (by rw [List.length_append, pl_len, hd_len]) (256 - tot d) (256 - tot a) (by omega) b (fun c hc => (h.1 c (by simp [hc])).1) (by omega) (by omega) b.length (Nat.le_refl _)]
  rw [List.take_length, List.drop_length]
  have e3 : (hd kd a.length (tot a) ++ pl 256 a) ++ (pl (256 - tot a) b ++ (pl (256 - tot d - tot b) [] ++ (zs r ++ (bod b ++ bod a)))) = hd kd a.length (tot a) ++ (pl 256 (a ++ b) ++ (zs r ++ bod (a ++ b))) := by
    rw [pl_append, bod_append]
    simp only [List.append_assoc]
    rfl
  rw [e3]
  have := lay_made kd (UInt8.ofNat a.length) (UInt8.ofNat (tot a % 256)) (UInt8.ofNat (tot a / 256)) (a ++ b) r (fun c hc => (h.1 c hc).1) (by rw [tot_append, List.length_append]; exact h2) (by rw [tot_append, List.length_append]; omega)
  rw [List.length_append] at this
  exact this
/-- A cell, read of its bytes. -/
theorem lay_cell (kd : UInt8) (a : List Cel) (c : Cel) (b : List Cel) (h : okC (a ++ c :: b)) : keyB (lay kd (a ++ c :: b)) a.length = c.1 ∧ valB (lay kd (a ++ c :: b)) a.length = c.2 ∧ byteAt (lay kd (a ++ c :: b)) (8 + 2 * a.length) + byteAt (lay kd (a ++ c :: b)) (9 + 2 * a.length) ≤ endB (lay kd (a ++ c :: b)) a.length ∧ 9 + 2 * a.length < 256 ∧ a.length < byteAt (lay kd (a ++ c :: b)) 1 := by
  obtain ⟨p1, p2⟩ := place_at kd a c b h
  have he := lay_end kd a (c :: b) h
  have h2 := h.2
  have h1 := h.1 c (by simp)
  rw [tot_append, List.length_append] at h2
  have h3 : tot (c :: b) = csz c + tot b := rfl
  have hlc : (c :: b).length = b.length + 1 := rfl
  have hcs : csz c = c.1.length + c.2.length := rfl
  have e0 : lay kd (a ++ c :: b) = (hd kd (a ++ c :: b).length (tot (a ++ c :: b)) ++ (pl 256 (a ++ c :: b) ++ (zs (248 - 2 * (a ++ c :: b).length - tot (a ++ c :: b)) ++ bod b))) ++ (c.1 ++ (c.2 ++ bod a)) := by
    have eb : bod (c :: b) = bod b ++ (c.1 ++ c.2) := rfl
    unfold lay
    rw [bod_append, eb]
    simp only [List.append_assoc]
  have hl : (hd kd (a ++ c :: b).length (tot (a ++ c :: b)) ++ (pl 256 (a ++ c :: b) ++ (zs (248 - 2 * (a ++ c :: b).length - tot (a ++ c :: b)) ++ bod b))).length = 256 - tot a - csz c := by
    simp only [List.length_append, pl_len, hd_len, List.length_replicate, bod_len, tot_append]
    omega
  refine ⟨?_, ?_, ?_, by omega, ?_⟩
  · unfold keyB
    rw [p1, p2, e0, ← hl, List.drop_left, List.take_left]
  · unfold valB
    rw [p1, p2, he, ← List.drop_drop, e0, ← hl, List.drop_left, List.drop_left, hl]
    rw [show 256 - tot a - (256 - tot a - csz c + c.1.length) = c.2.length by omega, List.take_left]
  · rw [p1, p2, he]; omega
  · rw [lay_count kd _ h, List.length_append]; omega
end Go.Proofs.YtkhpmmmildcceaaGreat
