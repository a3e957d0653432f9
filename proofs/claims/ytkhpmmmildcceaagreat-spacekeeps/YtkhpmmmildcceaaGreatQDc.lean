/- What cells say of a state: pure. Small calls of a state. -/
import Derived.Test.YtkhpmmmildcceaaGreatQBy
import Derived.Test.YtkhpmmmildcceaaGreatQGd
namespace Go.Proofs.YtkhpmmmildcceaaGreat
open Go.ChangeShapes Go.WideShapes Go.ChangeAt Go.RowKit
set_option linter.unusedVariables false
set_option maxRecDepth 100000

def copyU (u v : List UInt8) : List UInt8 := v.take 63 ++ u.drop v.length
def numB (v : List UInt8) : Nat := (v.getD 0 0).toNat + (v.getD 1 0).toNat * 256
def okC2 (c : Cel) : Bool := decide (1 ≤ c.1.length ∧ c.1.length ≤ 8) && decide (c.2.length = 2)
def stepN (st : List UInt8 × List Nam) (c : Cel) : List UInt8 × List Nam := if c.1 = usedK then (copyU st.1 c.2, st.2) else if okC2 c = true then (st.1, putN st.2 c.1 (numB c.2)) else st
/-- The state that cells say. -/
def decN (cs : List Cel) : List UInt8 × List Nam := cs.foldl stepN (u0, [])
theorem decN_snoc (cs : List Cel) (c : Cel) : decN (cs ++ [c]) = stepN (decN cs) c := by
  unfold decN
  rw [List.foldl_append]
  rfl
theorem copyU_len (u v : List UInt8) (hu : u.length = 63) : (copyU u v).length = 63 := by
  unfold copyU
  rw [List.length_append, List.length_take, List.length_drop, hu]
  omega
theorem copyU_all (u v : List UInt8) (hu : u.length = 63) (hv : v.length = 63) : copyU u v = v := by
  unfold copyU
  rw [List.take_of_length_le (by omega), List.drop_eq_nil_of_le (by omega), List.append_nil]
theorem snoc_ind {α : Type} {P : List α → Prop} (h0 : P []) (h1 : ∀ l x, P l → P (l ++ [x])) (l : List α) : P l := by
  rw [← l.reverse_reverse]
  generalize l.reverse = r
  induction r with
  | nil => exact h0
  | cons x r ih => rw [List.reverse_cons]; exact h1 _ _ ih
theorem dec_len63 (cs : List Cel) : (decN cs).1.length = 63 := by
  refine snoc_ind (P := fun cs => (decN cs).1.length = 63) u0_len (fun l x ih => ?_) cs
  rw [decN_snoc]
  unfold stepN
  split
  · exact copyU_len _ _ ih
  · split
    · exact ih
    · exact ih
theorem pw_snoc {l : List Cel} {x : Cel} (h : pwC (l ++ [x])) : pwC l ∧ ∀ y, y ∈ l → y.1 ≠ x.1 := by
  have := List.pairwise_append.1 h
  exact ⟨this.1, fun y hy => less_ne (this.2.2 y hy x (List.mem_singleton.2 rfl))⟩
theorem dec_used {v : List UInt8} (hv : v.length = 63) (cs : List Cel) : pwC cs → (usedK, v) ∈ cs → (decN cs).1 = v := by
  refine snoc_ind (P := fun cs => pwC cs → (usedK, v) ∈ cs → (decN cs).1 = v) (fun _ h => by cases h) (fun l x ih hp hm => ?_) cs
  obtain ⟨h1, h2⟩ := pw_snoc hp
  rw [decN_snoc]
  unfold stepN
  rcases List.mem_append.1 hm with q | q
  · have hne : ¬ x.1 = usedK := fun e => h2 _ q e.symm
    rw [if_neg hne]
    split
    · exact ih h1 q
    · exact ih h1 q
  · have e : (usedK, v) = x := List.mem_singleton.1 q
    subst e
    rw [if_pos rfl]
    exact copyU_all _ _ (dec_len63 l) hv
theorem dec_mem (cs : List Cel) : pwC cs → ∀ z, z ∈ (decN cs).2 ↔ ∃ c, c ∈ cs ∧ c.1 ≠ usedK ∧ okC2 c = true ∧ z = (c.1, numB c.2) := by
  refine snoc_ind (P := fun cs => pwC cs → ∀ z, z ∈ (decN cs).2 ↔ ∃ c, c ∈ cs ∧ c.1 ≠ usedK ∧ okC2 c = true ∧ z = (c.1, numB c.2)) (fun _ z => ⟨fun h => (by cases h), fun ⟨c, h, _⟩ => (by cases h)⟩) (fun l x ih hp z => ?_) cs
  obtain ⟨h1, h2⟩ := pw_snoc hp
  have ih1 := ih h1
  rw [decN_snoc]
  have old : (∃ c, c ∈ l ∧ c.1 ≠ usedK ∧ okC2 c = true ∧ z = (c.1, numB c.2)) → ∃ c, c ∈ l ++ [x] ∧ c.1 ≠ usedK ∧ okC2 c = true ∧ z = (c.1, numB c.2) := fun ⟨c, q1, q2⟩ => ⟨c, List.mem_append_left _ q1, q2⟩
  unfold stepN
  split
  · rename_i e
    rw [ih1]
    refine ⟨old, fun ⟨c, q1, q2, q3⟩ => ?_⟩
    rcases List.mem_append.1 q1 with q | q
    · exact ⟨c, q, q2, q3⟩
    · rw [List.mem_singleton.1 q] at q2
      exact absurd e q2
  · rename_i e
    split
    · rename_i e2
      rw [mem_putN, ih1]
      constructor
      · rintro (q | ⟨q, _⟩)
        · exact ⟨x, List.mem_append_right _ (List.mem_singleton.2 rfl), e, e2, q⟩
        · exact old q
      · rintro ⟨c, q1, q2, q3, q4⟩
        rcases List.mem_append.1 q1 with q | q
        · refine Or.inr ⟨⟨c, q, q2, q3, q4⟩, ?_⟩
          rw [q4]
          exact h2 c q
        · have hc := List.mem_singleton.1 q
          subst hc
          exact Or.inl q4
    · rename_i e2
      rw [ih1]
      refine ⟨old, fun ⟨c, q1, q2, q3, q4⟩ => ?_⟩
      rcases List.mem_append.1 q1 with q | q
      · exact ⟨c, q, q2, q3, q4⟩
      · rw [List.mem_singleton.1 q] at q3
        exact absurd q3 e2
theorem numB_le2 (n : Nat) (h : n < 65536) : numB (le2 n) = n := by
  show (UInt8.ofNat n).toNat + (UInt8.ofNat (n / 256)).toNat * 256 = n
  rw [UInt8.toNat_ofNat', UInt8.toNat_ofNat']
  omega
theorem le2_numB (v : List UInt8) (h : v.length = 2) : le2 (numB v) = v := by
  match v, h with
  | [a, b], _ =>
    have e : numB [a, b] = a.toNat + b.toNat * 256 := rfl
    have ha := a.toNat_lt
    have hb := b.toNat_lt
    rw [e]
    unfold le2
    have e1 : UInt8.ofNat (a.toNat + b.toNat * 256) = a := by
      apply UInt8.toNat.inj
      rw [UInt8.toNat_ofNat']
      omega
    have e2 : UInt8.ofNat ((a.toNat + b.toNat * 256) / 256) = b := by
      apply UInt8.toNat.inj
      rw [UInt8.toNat_ofNat']
      omega
    rw [e1, e2]
theorem numB_lt (v : List UInt8) : numB v < 65536 := by
  unfold numB
  have ha := (v.getD 0 0).toNat_lt
  have hb := (v.getD 1 0).toNat_lt
  omega
theorem okC2_is {c : Cel} : okC2 c = true ↔ (1 ≤ c.1.length ∧ c.1.length ≤ 8) ∧ c.2.length = 2 := by
  unfold okC2
  simp
theorem dec_ok {cs : List Cel} (hp : pwC cs) : ∀ x, x ∈ (decN cs).2 → okN x ∧ x.2 < 65536 := fun x hx => by
  obtain ⟨c, _, _, h2, rfl⟩ := (dec_mem cs hp x).1 hx
  exact ⟨(okC2_is.1 h2).1, numB_lt _⟩
theorem dec_back {cs : List Cel} (hp : pwC cs) {x : Nam} (hx : x ∈ (decN cs).2) : nC x ∈ cs := by
  obtain ⟨c, h1, _, h2, rfl⟩ := (dec_mem cs hp x).1 hx
  have : nC (c.1, numB c.2) = c := by
    unfold nC
    rw [le2_numB _ (okC2_is.1 h2).2]
  rw [this]
  exact h1
theorem risN_ext {a b : List Nam} (ha : risN a) (hb : risN b) (hk : ∀ x, x ∈ a → x.2 < 65536) (hk2 : ∀ x, x ∈ b → x.2 < 65536) (h : ∀ x, x ∈ a ↔ x ∈ b) : a = b := by
  have e := pw_ext (a := a.map nC) (b := b.map nC) (List.pairwise_map.2 ha) (List.pairwise_map.2 hb) (fun c => by
    rw [List.mem_map, List.mem_map]
    exact ⟨fun ⟨x, h1, h2⟩ => ⟨x, (h x).1 h1, h2⟩, fun ⟨x, h1, h2⟩ => ⟨x, (h x).2 h1, h2⟩⟩)
  have bk : ∀ l : List Nam, (∀ x, x ∈ l → x.2 < 65536) → (l.map nC).map (fun c => (c.1, numB c.2)) = l := fun l => by
    induction l with
    | nil => intro _; rfl
    | cons x r ih =>
      intro hl
      have e1 := ih (fun y hy => hl y (List.mem_cons_of_mem _ hy))
      have e2 := numB_le2 x.2 (hl x (List.mem_cons_self ..))
      show (x.1, numB (le2 x.2)) :: (r.map nC).map (fun c => (c.1, numB c.2)) = x :: r
      rw [e1, e2]
  have h1 := bk a hk
  rw [e, bk b hk2] at h1
  exact h1.symm
/-- The cells of a map say its state. -/
theorem dec_cells {u : List UInt8} {ns : List Nam} (hu : u.length = 63) (hr : risN ns) (hk : ∀ x, x ∈ ns → okN x ∧ x.2 < 65536) (hd : risN (decN (cellsN u ns)).2) : decN (cellsN u ns) = (u, ns) := by
  have hp := pw_cellsN u hr (fun x hx => (hk x hx).1)
  have h1 := dec_used hu (cellsN u ns) hp (mem_cellsN.2 (Or.inl rfl))
  have h2 : (decN (cellsN u ns)).2 = ns := risN_ext hd hr (fun x hx => (dec_ok hp x hx).2) (fun x hx => (hk x hx).2) (fun x => by
    rw [dec_mem _ hp]
    constructor
    · rintro ⟨c, q1, q2, q3, rfl⟩
      rcases mem_cellsN.1 q1 with rfl | ⟨y, hy, rfl⟩
      · exact absurd rfl q2
      · have : (((nC y).1, numB (nC y).2) : Nam) = y := by
          show (y.1, numB (le2 y.2)) = y
          rw [numB_le2 _ (hk y hy).2]
        rw [this]
        exact hy
    · intro hx
      exact ⟨nC x, mem_cellsN.2 (Or.inr ⟨x, hx, rfl⟩), used_ne (hk x hx).1, okC2_is.2 ⟨(hk x hx).1, rfl⟩, by
        show x = (x.1, numB (le2 x.2))
        rw [numB_le2 _ (hk x hx).2]⟩)
  exact Prod.ext h1 h2
theorem bytesB_inj {kd kd' : UInt8} {cs cs' : List Cel} (h : okC cs) (h' : okC cs') (e : bytesB (lay kd cs) = bytesB (lay kd' cs')) : kd = kd' ∧ cs = cs' := by
  have a := good_head kd cs h
  have b := good_head kd' cs' h'
  rw [e] at a
  have hk : kd.toNat = kd'.toNat := a.1.symm.trans b.1
  have hl : cs.length = cs'.length := a.2.symm.trans b.2
  have c := good_dec kd cs h cs.length (Nat.le_refl _)
  have d := good_dec kd' cs' h' cs'.length (Nat.le_refl _)
  rw [e, hl, d, List.take_of_length_le (Nat.le_refl _), List.take_of_length_le (by omega)] at c
  exact ⟨UInt8.toNat.inj hk, c.symm⟩
/-- The bytes of a map that says a state. -/
def MapS (l : List UInt8) (u : List UInt8) (ns : List Nam) : Prop := u.length = 63 ∧ risN ns ∧ (∀ x, x ∈ ns → okN x ∧ x.2 < 65536) ∧ okC (cellsN u ns) ∧ l = bytesB (lay (UInt8.ofNat 3) (cellsN u ns))
theorem MapS.inj {l u u' : List UInt8} {ns ns' : List Nam} (h : MapS l u ns) (h' : MapS l u' ns') (hd : risN (decN (cellsN u ns)).2) : u = u' ∧ ns = ns' := by
  obtain ⟨a1, a2, a3, a4, a5⟩ := h
  obtain ⟨b1, b2, b3, b4, b5⟩ := h'
  have e := (bytesB_inj a4 b4 (a5.symm.trans b5)).2
  have e1 := dec_cells a1 a2 a3 hd
  rw [e] at hd e1
  have e2 := dec_cells b1 b2 b3 hd
  rw [e1] at e2
  exact ⟨congrArg Prod.fst e2, congrArg Prod.snd e2⟩
theorem mapS_good {s : ByteArray} {u : List UInt8} {ns : List Nam} (h : MapS s.data.toList u ns) : Good s := ⟨UInt8.ofNat 3, cellsN u ns, kd3, h.2.2.2.1, (ris_pw _).2 (pw_cellsN u h.2.1 (fun x hx => (h.2.2.1 x hx).1)), h.2.2.2.2⟩
theorem map_yes {kd : UInt8} {cs cs2 : List Cel} {l : List UInt8} (hok : okC cs) (hp : pwC cs) (hl : l = bytesB (lay kd cs)) (hd : risN (decN cs).2) (hb : BytE (decN cs).1 (decN cs).2 cs2) (e : bytesB (lay (UInt8.ofNat 3) cs2) = l) : MapS l (decN cs).1 (decN cs).2 := by
  obtain ⟨rfl, rfl⟩ := bytesB_inj hb.1 hok (e.trans hl)
  have hk := dec_ok hp
  have ec : cs2 = cellsN (decN cs2).1 (decN cs2).2 := pw_ext hp (pw_cellsN _ hd (fun x hx => (hk x hx).1)) (fun c => by
    rw [mem_cellsN]
    constructor
    · exact hb.2.2.2.1 c
    · rintro (rfl | ⟨x, hx, rfl⟩)
      · exact hb.2.2.1
      · exact dec_back hp hx)
  refine ⟨dec_len63 _, hd, hk, ?_, ?_⟩
  · rw [← ec]; exact hok
  · rw [← ec]; exact hl
theorem map_no {kd : UInt8} {cs cs2 : List Cel} {l : List UInt8} (hok : okC cs) (hl : l = bytesB (lay kd cs)) (hd : risN (decN cs).2) (hb : BytE (decN cs).1 (decN cs).2 cs2) (e : bytesB (lay (UInt8.ofNat 3) cs2) ≠ l) (u' : List UInt8) (ns' : List Nam) : ¬ MapS l u' ns' := by
  rintro ⟨a1, a2, a3, a4, a5⟩
  obtain ⟨rfl, rfl⟩ := bytesB_inj hok a4 (hl.symm.trans a5)
  have e1 := dec_cells a1 a2 a3 hd
  rw [e1] at hb
  have e2 := hb.2.2.2.2 a4
  rw [e2] at e
  exact e hl.symm
end Go.Proofs.YtkhpmmmildcceaaGreat

namespace Go.Proofs.YtkhpmmmildcceaaGreat
open Go.ChangeShapes Go.WideShapes Go.ChangeAt Go.RowKit
set_option linter.unusedVariables false
set_option maxRecDepth 100000

theorem mayName_is (s : ByteArray) (hs : s.size ≤ 1000) (w : World) : Calls Tryz.prog 53 #[.string s] w fun e w' => e = .returned (.bool (decide (1 ≤ s.size ∧ s.size ≤ 8))) ∧ w' = w := by
  have hl : s.toList = s.data.toList := ByteArray.toList_eq s
  have hz : s.data.toList.length = s.size := by simp
  by_cases h1 : 1 ≤ s.size
  · have e1 : s.toList.isEmpty = false := by
      rw [hl]
      cases q : s.data.toList with
      | nil => rw [q] at hz; simp at hz; omega
      | cons a r => rfl
    by_cases h2 : s.size ≤ 8
    · rw [decide_eq_true ⟨h1, h2⟩]
      have c2 : (s.size : Int) ≤ 8 := by omega
      clear h1 h2 hl hz
      go_enter Tryz.func53, Tryz.ntmps53
      go_wp2_with fail
      go_ret
      exact ⟨rfl, rfl⟩
    · rw [decide_eq_false (fun z => h2 z.2)]
      have c2 : ¬ (s.size : Int) ≤ 8 := by omega
      clear h1 h2 hl hz
      go_enter Tryz.func53, Tryz.ntmps53
      go_wp2_with fail
      go_ret
      exact ⟨rfl, rfl⟩
  · rw [decide_eq_false (fun z => h1 z.1)]
    have e0 : s = ⟨#[]⟩ := by
      apply ByteArray.ext
      apply Array.ext'
      rw [← List.length_eq_zero_iff, hz]
      omega
    subst e0
    clear h1 hl hz
    go_enter Tryz.func53, Tryz.ntmps53
    go_wp2_with fail
    go_ret
    exact ⟨rfl, rfl⟩
theorem atL {w : World} {q : Nat} {kd : UInt8} {cs : List Cel} (h : Pg w q (lay kd cs)) (hok : okC cs) (i : Nat) (hi : i < cs.length) : Calls Tryz.prog 124 #[.pointer (some ⟨q, 0, none⟩), .int .i64 (i : Int)] w fun e w' => e = .returned (.tuple #[.string ⟨cs[i].1.toArray⟩, .string ⟨cs[i].2.toArray⟩]) ∧ ∃ m, w' = w.drewN m := by
  obtain ⟨a, b, e, hl⟩ := cell_split hi
  have hh := lay_cell kd a cs[i] b (by rw [← e]; exact hok)
  rw [← e, hl] at hh
  have := at_is h i hh.2.2.2.1 hh.2.2.2.2 hh.2.2.1
  rw [hh.1, hh.2.1] at this
  exact this
theorem copy_used {w : World} {b : Nat} {u : List UInt8} {m : Option Nat} (h : StAt w b u m) (ty : TypeId) (s : ByteArray) : ∃ n : Nat, n ≤ 63 ∧ (Builtin.copy_ #[98, 9] ty #[.slice (some ⟨b, 0, none⟩) 63 63, .string s]).run Tryz.prog w = .ok (.int .i64 (n : Int)) (w.setCells b 0 (bv (s.data.toList.take 63))) ∧ StAt (w.setCells b 0 (bv (s.data.toList.take 63))) b (copyU u s.data.toList) m := by
  have hsz : s.data.toList.length = s.size := by simp
  have hl : (bv (s.data.toList.take 63)).length = Nat.min s.size 63 := by
    rw [bv_length, List.length_take, hsz]
    exact Nat.min_comm _ _
  have hl0 := stC_len u m h.2
  have hle : Nat.min s.size 63 ≤ 63 := Nat.min_le_right _ _
  refine ⟨Nat.min s.size 63, hle, ?_, ?_⟩
  · have hst := run_storeCells_cells (P := Tryz.prog) b 0 (bv (s.data.toList.take 63)) 0 w (fun j hj => by
      have hj2 : j < (stC u m).length := by rw [hl] at hj; omega
      simp only [Nat.zero_add, Nat.add_zero]
      rw [h.1.cell (List.getElem?_eq_getElem hj2)]
      rfl) (fun j _ => h.1.fz _) (fun v hv => by
      unfold bv at hv
      obtain ⟨x, _, rfl⟩ := List.mem_map.1 hv
      rfl)
    have e1 : List.take (Nat.min s.size 63) (s.data.toList.map fun x => Value.int .u8 (x.toNat : Int)) = bv (s.data.toList.take 63) := by
      unfold bv
      rw [← List.map_take]
      congr 1
      rw [List.take_eq_take_iff, hsz]
      exact (Nat.min_assoc _ _ _).symm ▸ (by simp [Nat.min_def]; split <;> omega)
    simp only [Nat.add_zero] at hst
    have hs5 := fun w => size5 w
    simp [Builtin.copy_, run_underlying Tryz.underlying98, Builtin.lenOf, Builtin.firstCells, hs5]
    rw [e1, hst]
    rfl
  · have := h.1.setCells (bv (s.data.toList.take 63)) 0
    rw [setL_is _ _ _ (by rw [hl, hl0]; omega)] at this
    refine ⟨?_, copyU_len u _ h.2⟩
    have e : (stC u m).take 0 ++ (bv (s.data.toList.take 63) ++ (stC u m).drop (0 + (bv (s.data.toList.take 63)).length)) = stC (copyU u s.data.toList) m := by
      rw [List.take_zero, List.nil_append, Nat.zero_add, hl]
      unfold stC copyU
      have e2 : bv (s.data.toList.take 63 ++ u.drop s.data.toList.length) = bv (s.data.toList.take 63) ++ (bv u).drop s.data.toList.length := by
        unfold bv
        rw [List.map_append, List.map_drop]
      rw [e2, List.append_assoc]
      congr 1
      rw [List.drop_append, bv_length, h.2, hsz]
      by_cases c : s.size ≤ 63
      · rw [show Nat.min s.size 63 = s.size from Nat.min_eq_left c, show s.size - 63 = 0 by omega]
        rfl
      · have d1 : (bv u).drop 63 = [] := List.drop_eq_nil_of_le (by rw [bv_length, h.2]; exact Nat.le_refl _)
        have d2 : (bv u).drop s.size = [] := List.drop_eq_nil_of_le (by rw [bv_length, h.2]; omega)
        rw [show Nat.min s.size 63 = 63 from Nat.min_eq_right (by omega), d1, d2]
        rfl
    rw [e] at this
    exact this
end Go.Proofs.YtkhpmmmildcceaaGreat
