/- New, Copy. sort.Search, Find. cut, add, take, of cells. -/
import Derived.Test.YtkhpmmmildcceaaGreatQLy
import Derived.Laws.MakeOwn
import Derived.Laws.Cover1
import Derived.Laws.EntriesVeiled
import Derived.Deep.Cut
namespace Go.Proofs.YtkhpmmmildcceaaGreat
open Go.ChangeShapes Go.WideShapes Go.ChangeAt Go.RowKit
set_option linter.unusedVariables false
set_option maxRecDepth 100000
set_option maxRecDepth 100000

theorem info58 : (Tryz.prog.info? 158).map (fun i => (i.zero, i.size)) = some (some (.agg (Array.replicate 256 (.int .u8 0))), 256) := by kernel_rfl
theorem info_of58 : ∃ i, Tryz.prog.info? 158 = some i ∧ i.zero = some (.agg (Array.replicate 256 (.int .u8 0))) ∧ i.size = 256 := by
  have h := info58
  cases hi : Tryz.prog.info? 158 with
  | none => rw [hi] at h; cases h
  | some i =>
    rw [hi] at h
    simp only [Option.map_some, Option.some.injEq, Prod.mk.injEq] at h
    exact ⟨i, rfl, h⟩
theorem bv_zs_array : (bv (zs 256)).toArray = Array.replicate 256 (.int .u8 0) := by
  rw [bv_zs]
  exact (List.toArray_replicate (n := 256) (v := Value.int .u8 0))
theorem cells_agg_rep : (Value.agg (Array.replicate 256 (.int .u8 0))).cells = Array.replicate 256 (.int .u8 0) := by kernel_rfl
theorem alloc58 (w : World) : (Instr.alloc 158 true (.tuple #[])).run Tryz.prog w = .ok (.pointer (some ⟨w.heap.size, 0, none⟩)) (w.alloc (.cells (bv (zs 256)).toArray 158)) := by
  obtain ⟨i, hi, hz, hs⟩ := info_of58
  rw [bv_zs_array]
  simp [Instr.alloc, newVar, zeroValue, typeInfo, hi, hz, go_sem]
theorem load58 {w : World} {p : Nat} {B : List UInt8} (h : Pg w p B) : (Instr.loadAt 158 (.pointer (some ⟨p, 0, none⟩))).run Tryz.prog w = .ok (.agg (bv B).toArray) w := by
  have hl := run_loadCells_list (P := Tryz.prog) w ⟨p, 0, none⟩ (bv B) (fun j x hx => by
    rw [Go.WideShapes.add_plain, Nat.zero_add, cell_of_row w p j _ 158 (0, 0) h.blk]
    rw [← hx]
    simp)
  rw [bv_len, h.len] at hl
  obtain ⟨i, hi, hz, hs⟩ := info_of58
  simp [Instr.loadAt, Instr.sureAddr, loadVar, Sem.run_bind, sizeOf, typeInfo, hi, hs, hl]

theorem heap_new (w : World) (o : Obj) : (w.alloc o).heap[w.heap.size]? = some o := by
  show (w.heap.push o)[w.heap.size]? = some o
  exact Array.getElem?_push_size
theorem store58 (w : World) (B : List UInt8) (hB : B.length = 256) (Z : Array Value) (hZ : Z.size = 256) : (Instr.storeAt 158 (.pointer (some ⟨w.heap.size, 0, none⟩)) (.agg (bv B).toArray)).run Tryz.prog (w.alloc (.cells Z 158)) = .ok () (w.alloc (.cells (bv B).toArray 158)) := by
  obtain ⟨i, hi, hz, h2⟩ := info_of58
  simp only [Instr.storeAt, Instr.sureAddr, Sem.run_bind, Sem.run_pure, Result.andThen]
  have hh : (w.alloc (.cells Z 158)).heap[w.heap.size]? = some (.cells Z 158 (0, 0)) := heap_new w _
  have := run_storeVar_row (P := Tryz.prog) (w.alloc (.cells Z 158)) w.heap.size 158 158 Z (bv B).toArray hh (by rw [hi]; simp [h2, bv_len, hB]) (by simp [bv_len, hB, hZ]) (by rw [Array.all_eq_true]; intro k hk; exact bv_one B _ (by simp))
  rw [this]
  congr 1
  simp only [World.setRow, World.alloc]
  congr 1
  apply Array.ext_getElem?
  intro k
  rw [Array.getElem?_modify]
  by_cases h : w.heap.size = k
  · subst h
    simp
  · have h' : ¬ k = w.heap.size := fun e => h e.symm
    simp [h, h', Array.getElem?_push]
theorem pg_new (w : World) (B : List UInt8) (hB : B.length = 256) : Pg (w.alloc (.cells (bv B).toArray 158)) w.heap.size B := ⟨heap_new w _, hB⟩
theorem lay_none (kd : UInt8) : (zs 256).set 0 kd = lay kd [] := by
  have e : zs 256 = 0 :: zs 255 := rfl
  rw [e]
  show kd :: zs 255 = hd kd 0 0 ++ ([] ++ (zs 248 ++ []))
  rfl
set_option maxHeartbeats 1000000 in
theorem empty_is (kd : UInt8) (w : World) : Calls Tryz.prog 110 #[.int .u8 (kd.toNat : Int)] w fun e w' => ∃ p, e = .returned (.pointer (some ⟨p, 0, none⟩)) ∧ Pg w' p (lay kd []) ∧ Kept (fun _ => False) w w' ∧ w.heap.size ≤ p := by
  have HA : Hid ((Instr.alloc 158 true (.tuple #[])).run Tryz.prog w = .ok (.pointer (some ⟨w.heap.size, 0, none⟩)) (w.alloc (.cells (bv (zs 256)).toArray 158))) := alloc58 w
  have hP0 := pg_new w (zs 256) (by simp)
  have hK0 : Kept (fun _ => False) w (w.alloc (.cells (bv (zs 256)).toArray 158)) := (Kept.refl _ w).alloc _
  obtain ⟨W, hW⟩ : ∃ W, w.alloc (.cells (bv (zs 256)).toArray 158) = W := ⟨_, rfl⟩
  obtain ⟨p, hp⟩ : ∃ p, w.heap.size = p := ⟨_, rfl⟩
  rw [hW] at HA hP0 hK0
  rw [hp] at HA hP0
  have HP : Hid (Pg W p (zs 256) ∧ Kept (fun _ => False) w W ∧ w.heap.size ≤ p) := ⟨hP0, hK0, Nat.le_of_eq hp⟩
  have c0 := hP0.cell 0 (by decide)
  have f0 := hP0.fz
  clear hP0 hK0 hW hp
  go_enter Tryz.func110, Tryz.ntmps110
  go_wp2_with ((with_reducible apply st_alloc); (case ho => rfl); (case hgd => rfl); (case hr => exact HA.out))
  have hP1 := HP.out.1.set1 0 kd
  rw [lay_none] at hP1
  have HP1 : Hid (Pg (W.setCell ⟨p, 0, none⟩ (.int .u8 (kd.toNat : Int))) p (lay kd []) ∧ Kept (fun _ => False) w (W.setCell ⟨p, 0, none⟩ (.int .u8 (kd.toNat : Int))) ∧ w.heap.size ≤ p) := ⟨hP1, HP.out.2.1.setCell (p := ⟨p, 0, none⟩) (.inr HP.out.2.2) _, HP.out.2.2⟩
  clear hP1 HP
  go_ret
  exact ⟨p, rfl, HP1.out⟩
theorem pnew_is (k : Nat) (h1 : 1 ≤ k) (h2 : k ≤ 255) (w : World) : Calls Tryz.prog 79 #[.int .i64 (k : Int)] w fun e w' => ∃ p, e = .returned (.tuple #[.pointer (some ⟨p, 0, none⟩), .int .i64 0]) ∧ Pg w' p (lay (UInt8.ofNat k) []) ∧ Kept (fun _ => False) w w' ∧ w.heap.size ≤ p := by
  have HE : Hid (Calls Tryz.prog 110 #[.int .u8 (k : Int)] w fun e w' => ∃ p, e = .returned (.pointer (some ⟨p, 0, none⟩)) ∧ Hid (Pg w' p (lay (UInt8.ofNat k) []) ∧ Kept (fun _ => False) w w' ∧ w.heap.size ≤ p)) := by
    have := empty_is (UInt8.ofNat k) w
    rw [byteAt_val k (by omega)] at this
    exact this
  have c1 : ¬ (k : Int) < 1 := by omega
  have c2 : ¬ (255 : Int) < (k : Int) := by omega
  have c3 : IntKind.u8.wrap (k : Int) = (k : Int) := wrap8 k (by omega)
  have c4 : (k : Int) % 256 = (k : Int) := by omega
  go_enter Tryz.func79, Tryz.ntmps79
  go_wp2_with fail
  refine Calls.mono HE.out ?_; rintro e w1 ⟨p, rfl, HP⟩
  go_wp2_with fail
  go_ret2
  exact ⟨p, rfl, HP.out⟩
theorem pnew_no (k : Int) (h : k < 1 ∨ 255 < k) (w : World) : Calls Tryz.prog 79 #[.int .i64 k] w fun e w' => e = .returned (.tuple #[.pointer none, .int .i64 1]) ∧ w' = w := by
  by_cases c : k < 1
  · go_enter Tryz.func79, Tryz.ntmps79
    go_wp2
    go_ret2
    exact ⟨rfl, rfl⟩
  · have c' : 255 < k := by omega
    go_enter Tryz.func79, Tryz.ntmps79
    go_wp2
    go_ret2
    exact ⟨rfl, rfl⟩
end Go.Proofs.YtkhpmmmildcceaaGreat

namespace Go.Proofs.YtkhpmmmildcceaaGreat
open Go.ChangeShapes Go.WideShapes Go.ChangeAt Go.RowKit
set_option linter.unusedVariables false
set_option maxRecDepth 100000
set_option maxRecDepth 100000

theorem half_is (i j h : Nat) (hh : (i + j) / 2 = h) (hb : i + j ≤ 2000) : IntKind.u64.wrap ((i : Int) + (j : Int)) / 2 = (h : Int) := by
  have : IntKind.u64.wrap ((i : Int) + (j : Int)) = (i : Int) + (j : Int) := by simp [IntKind.wrap, IntKind.bits, IntKind.signed]; omega
  rw [this]
  omega
set_option maxHeartbeats 2000000 in
theorem search_is (n : Nat) (hn : n ≤ 1000) (f : Nat → Bool) (c : Array Value) (w : World) (HF : ∀ m h : Nat, h < n → Calls Tryz.prog 139 (#[.int .i64 (h : Int)] ++ c) (w.drewN m) fun e w' => e = .returned (.bool (f h)) ∧ ∃ k, w' = (w.drewN m).drewN k) (hm : ∀ x y, x ≤ y → y < n → f x = true → f y = true) :
    Calls Tryz.prog 138 #[.int .i64 (n : Int), .func (.func 139) #[] c] w fun e w' => ∃ i : Nat, e = .returned (.int .i64 (i : Int)) ∧ i ≤ n ∧ (∀ x, x < i → f x = false) ∧ (∀ x, i ≤ x → x < n → f x = true) ∧ ∃ m, w' = w.drewN m := by
  have HFF : Hid (∀ m h : Nat, h < n → Calls Tryz.prog 139 (#[.int .i64 (h : Int)] ++ c) (w.drewN m) fun e w' => e = .returned (.bool (f h)) ∧ ∃ k, w' = (w.drewN m).drewN k) := HF
  have HM : Hid (∀ x y, x ≤ y → y < n → f x = true → f y = true) := hm
  clear HF hm
  go_enter Tryz.func138, Tryz.ntmps138
  go_wp2_with fail
  go_loopw [5, 6] (fun v5 v6 wr => ∃ i j : Nat, i ≤ j ∧ j ≤ n ∧ v5 = .int .i64 i ∧ v6 = .int .i64 j ∧ Hid ((∀ x, x < i → f x = false) ∧ (∀ x, j ≤ x → x < n → f x = true)) ∧ ∃ m, wr = w.drewN m)
    (fun v5 v6 _ => (intOf v6).toNat - (intOf v5).toNat)
  case atStart => exact ⟨0, n, Nat.zero_le _, Nat.le_refl _, rfl, rfl, ⟨fun x hx => absurd hx (Nat.not_lt_zero _), fun x h1 h2 => absurd h2 (by omega)⟩, 0, rfl⟩
  case round =>
    obtain ⟨i, j, hij, hjn, rfl, rfl, HI, m, rfl⟩ := hrel
    by_cases hlt : i < j
    · have c1 : (i : Int) < (j : Int) := by omega
      obtain ⟨h, hh⟩ : ∃ h, (i + j) / 2 = h := ⟨_, rfl⟩
      have hhj : h < j := by omega
      have hhi : i ≤ h := by omega
      have e1 := half_is i j h hh (by omega)
      have e2 : ((i : Int) + (j : Int)) / 2 = (h : Int) := by omega
      have HH : Hid (h < j ∧ i ≤ h) := ⟨hhj, hhi⟩
      have HC : Hid (Calls Tryz.prog 139 (#[.int .i64 (h : Int)] ++ c) (w.drewN m) fun e w' => e = .returned (.bool (f h)) ∧ ∃ k, w' = (w.drewN m).drewN k) := HFF.out m h (by omega)
      have hhb : (h : Int) ≤ 1000 := by omega
      clear hh hhj hhi
      go_wp2_with fail
      refine Calls.mono HC.out ?_; rintro e w1 ⟨rfl, k, rfl⟩
      cases hf : f h with
      | false =>
        have HX : Hid (f h = false) := hf
        clear hf e1 e2
        go_wp2_with fail
        go_roundw
        case rel =>
          refine ⟨h + 1, j, by have := HH.out; omega, hjn, by rw [Int.natCast_add]; rfl, rfl, ⟨fun x hx => ?_, HI.out.2⟩, _, rfl⟩
          cases hfx : f x with
          | false => rfl
          | true =>
            have := HM.out x h (by omega) (by have := HH.out; omega) hfx
            rw [HX.out] at this
            cases this
        case measure =>
          have := HH.out
          simp only [intOf]
          omega
      | true =>
        have HX : Hid (f h = true) := hf
        clear hf e1 e2
        go_wp2_with fail
        go_roundw
        case rel => exact ⟨i, h, by have := HH.out; omega, by have := HH.out; omega, rfl, rfl, ⟨HI.out.1, fun x h1 h2 => HM.out h x h1 h2 HX.out⟩, _, rfl⟩
        case measure =>
          have := HH.out
          simp only [intOf]
          omega
    · have hij' : i = j := by omega
      subst hij'
      have c1 : ¬ (i : Int) < (i : Int) := by omega
      go_wp2_with fail
      go_ret
      exact ⟨i, rfl, hjn, HI.out.1, HI.out.2, m, rfl⟩

/-- Which texts stand first. -/
theorem less_irr : ∀ a : List UInt8, Op.bytesLess a a = false
  | [] => rfl
  | x :: a => by
    have := less_irr a
    simp [Op.bytesLess, this, UInt8.lt_irrefl]
theorem less_trans : ∀ a b c : List UInt8, Op.bytesLess a b = true → Op.bytesLess b c = true → Op.bytesLess a c = true
  | [], [], _, h, _ => by simp [Op.bytesLess] at h
  | [], _ :: _, [], _, h => by simp [Op.bytesLess] at h
  | [], _ :: _, _ :: _, _, _ => by simp [Op.bytesLess]
  | _ :: _, [], _, h, _ => by simp [Op.bytesLess] at h
  | _ :: _, _ :: _, [], _, h => by simp [Op.bytesLess] at h
  | x :: a, y :: b, z :: c, h1, h2 => by
    have ih := less_trans a b c
    simp only [Op.bytesLess, Bool.or_eq_true, decide_eq_true_eq, Bool.and_eq_true, beq_iff_eq] at h1 h2 ⊢
    rcases h1 with h1 | ⟨rfl, h1⟩
    · rcases h2 with h2 | ⟨rfl, h2⟩
      · exact .inl (UInt8.lt_trans h1 h2)
      · exact .inl h1
    · rcases h2 with h2 | ⟨rfl, h2⟩
      · exact .inl h2
      · exact .inr ⟨rfl, ih h1 h2⟩
theorem less_total : ∀ a b : List UInt8, Op.bytesLess a b = false → Op.bytesLess b a = false → a = b
  | [], [], _, _ => rfl
  | [], _ :: _, h, _ => by simp [Op.bytesLess] at h
  | _ :: _, [], _, h => by simp [Op.bytesLess] at h
  | x :: a, y :: b, h1, h2 => by
    have ih := less_total a b
    simp only [Op.bytesLess, Bool.or_eq_false_iff, decide_eq_false_iff_not, Bool.and_eq_false_iff, beq_eq_false_iff_ne] at h1 h2
    have e : x = y := UInt8.le_antisymm (UInt8.not_lt.1 h2.1) (UInt8.not_lt.1 h1.1)
    subst e
    have h3 : Op.bytesLess a b = false := h1.2.resolve_left (fun q => q rfl)
    have h4 : Op.bytesLess b a = false := h2.2.resolve_left (fun q => q rfl)
    rw [ih h3 h4]
/-- Keys that rise. -/
def ris (cs : List Cel) : Prop := ∀ i j (hi : i < cs.length) (hj : j < cs.length), i < j → Op.bytesLess cs[i].1 cs[j].1 = true
set_option maxHeartbeats 1000000 in
theorem clos_is {w : World} {p b1 b2 : Nat} {B : List UInt8} (h : Pg w p B) (k : Nat) (hk : 9 + 2 * k < 256) (hs : byteAt B (8 + 2 * k) + byteAt B (9 + 2 * k) ≤ 256) (key : ByteArray) (h1 : w.cell? ⟨b1, 0, none⟩ = some (.pointer (some ⟨p, 0, none⟩))) (h2 : w.cell? ⟨b2, 0, none⟩ = some (.string key)) : Calls Tryz.prog 139 #[.int .i64 (k : Int), .pointer (some ⟨b1, 0, none⟩), .pointer (some ⟨b2, 0, none⟩)] w fun e w' => e = .returned (.bool (!Op.bytesLess (keyB B k) key.data.toList)) ∧ ∃ m, w' = w.drewN m := by
  have HK : Hid (∀ n, Calls Tryz.prog 140 #[.pointer (some ⟨p, 0, none⟩), .int .i64 (k : Int)] (w.drewN n) fun e w' => e = .returned (.string ⟨(keyB B k).toArray⟩) ∧ ∃ m, w' = (w.drewN n).drewN m) := fun n => key_is (h.dr n) k hk hs
  obtain ⟨S, hS⟩ : ∃ S, (⟨(keyB B k).toArray⟩ : ByteArray) = S := ⟨_, rfl⟩
  have hS2 : keyB B k = S.data.toList := by rw [← hS]
  rw [hS] at HK
  rw [hS2]
  clear h hS hS2 hs hk
  go_enter Tryz.func139, Tryz.ntmps139
  go_wp2_with fail
  go_quiet (with_reducible exact Calls.quiet_of (HK.out _))
  go_wp2_with fail
  go_ret
  refine ⟨?_, _, rfl⟩
  rw [← ByteArray.toList_eq, ← ByteArray.toList_eq]
  rfl

/-- How many keys stand ahead. -/
def FindO (cs : List Cel) (key : List UInt8) (i : Nat) (b : Bool) : Prop := i ≤ cs.length ∧ (∀ x (hx : x < cs.length), x < i → Op.bytesLess cs[x].1 key = true) ∧ (∀ x (hx : x < cs.length), i ≤ x → Op.bytesLess cs[x].1 key = false) ∧ (b = true ↔ ∃ hi : i < cs.length, cs[i].1 = key)
theorem cell_split {cs : List Cel} {i : Nat} (hi : i < cs.length) : ∃ a b, cs = a ++ cs[i] :: b ∧ a.length = i := ⟨cs.take i, cs.drop (i + 1), by rw [← List.drop_eq_getElem_cons hi, List.take_append_drop], by rw [List.length_take]; omega⟩
theorem lay_key (kd : UInt8) {cs : List Cel} (h : okC cs) {i : Nat} (hi : i < cs.length) : keyB (lay kd cs) i = cs[i].1 ∧ byteAt (lay kd cs) (8 + 2 * i) + byteAt (lay kd cs) (9 + 2 * i) ≤ 256 ∧ 9 + 2 * i < 256 := by
  obtain ⟨a, b, e, hl⟩ := cell_split hi
  have hh := lay_cell kd a cs[i] b (by rw [← e]; exact h)
  rw [← e, hl] at hh
  have := endB_le (lay kd cs) i
  exact ⟨hh.1, by omega, hh.2.2.2.1⟩
/-- What Find answers. -/
def FindE (cs : List Cel) (key : List UInt8) (w : World) (e : Ending) (w' : World) : Prop := ∃ (i : Nat) (b : Bool), e = .returned (.tuple #[.int .i64 (i : Int), .bool b]) ∧ FindO cs key i b ∧ Kept (fun _ => False) w w'
set_option maxHeartbeats 4000000 in
theorem find_is {w : World} {p : Nat} {kd : UInt8} {cs : List Cel} (h : Pg w p (lay kd cs)) (hok : okC cs) (hr : ris cs) (key : ByteArray) : Calls Tryz.prog 113 #[.pointer (some ⟨p, 0, none⟩), .string key] w fun e w' => FindE cs key.data.toList w e w' := by
  have hn2 := hok.2
  obtain ⟨n, hn⟩ : ∃ n, cs.length = n := ⟨_, rfl⟩
  obtain ⟨W, hW⟩ : ∃ W, (w.alloc (.cells #[.pointer (some ⟨p, 0, none⟩)] 124)).alloc (.cells #[.string key] 9) = W := ⟨_, rfl⟩
  have hK : Kept (fun _ => False) w W := hW ▸ ((Kept.refl _ w).alloc _).alloc _
  have hP := h.step hK
  have c1 : W.cell? ⟨w.heap.size, 0, none⟩ = some (.pointer (some ⟨p, 0, none⟩)) := by rw [← hW]; simp [go_sem]
  have c2 : W.cell? ⟨w.heap.size + 1, 0, none⟩ = some (.string key) := by rw [← hW]; simp [go_sem]
  have HL : Hid (∀ V, Pg V p (lay kd cs) → Calls Tryz.prog 123 #[.pointer (some ⟨p, 0, none⟩)] V fun e w' => e = .returned (.int .i64 (n : Int)) ∧ ∃ m, w' = V.drewN m) := fun V hV => by have := len_is hV; rw [lay_count kd cs hok, hn] at this; exact this
  have HSR : Hid (∀ V : World, Pg V p (lay kd cs) → V.cell? ⟨w.heap.size, 0, none⟩ = some (.pointer (some ⟨p, 0, none⟩)) → V.cell? ⟨w.heap.size + 1, 0, none⟩ = some (.string key) → Calls Tryz.prog 138 #[.int .i64 (n : Int), .func (.func 139) #[] #[.pointer (some ⟨w.heap.size, 0, none⟩), .pointer (some ⟨w.heap.size + 1, 0, none⟩)]] V fun e w' => ∃ i : Nat, e = .returned (.int .i64 (i : Int)) ∧ Hid (i ≤ n ∧ (∀ x (hx : x < cs.length), x < i → Op.bytesLess cs[x].1 key.data.toList = true) ∧ (∀ x (hx : x < cs.length), i ≤ x → Op.bytesLess cs[x].1 key.data.toList = false)) ∧ ∃ m, w' = V.drewN m) := fun V hV d1 d2 => by
    refine (search_is n (by omega) (fun x => if hx : x < cs.length then !Op.bytesLess cs[x].1 key.data.toList else true) _ V (fun m x hx => ?_) (fun x y hxy hy hf => ?_)).mono ?_
    · have hx' : x < cs.length := by omega
      obtain ⟨k1, k2, k3⟩ := lay_key kd hok hx'
      have := clos_is (hV.dr m) x k3 k2 key (b1 := w.heap.size) (b2 := w.heap.size + 1) d1 d2
      rw [k1] at this
      simp only [hx', dif_pos]
      exact this
    · have hy' : y < cs.length := by omega
      have hx' : x < cs.length := by omega
      simp only [hx', hy', dif_pos, Bool.not_eq_true'] at hf ⊢
      rcases Nat.lt_or_ge x y with hlt | hge
      · cases hb : Op.bytesLess cs[y].1 key.data.toList with
        | false => rfl
        | true =>
          have := less_trans _ _ _ (hr x y hx' hy' hlt) hb
          rw [hf] at this
          cases this
      · have e : x = y := by omega
        subst e
        exact hf
    · rintro e w' ⟨i, rfl, h1, h2, h3, h4⟩
      refine ⟨i, rfl, ⟨h1, fun x hx hxi => ?_, fun x hx hxi => ?_⟩, h4⟩
      · have := h2 x hxi
        simp only [hx, dif_pos, Bool.not_eq_false'] at this
        exact this
      · have := h3 x hxi (by omega)
        simp only [hx, dif_pos, Bool.not_eq_true'] at this
        exact this
  have HKY : Hid (∀ (V : World) (x : Nat) (hx : x < cs.length), Pg V p (lay kd cs) → ∀ m, Calls Tryz.prog 140 #[.pointer (some ⟨p, 0, none⟩), .int .i64 (x : Int)] (V.drewN m) fun e w' => e = .returned (.string ⟨cs[x].1.toArray⟩) ∧ ∃ j, w' = (V.drewN m).drewN j) := fun V x hx hV m => by
    obtain ⟨k1, k2, k3⟩ := lay_key kd hok hx
    have := key_is (hV.dr m) x k3 k2
    rw [k1] at this
    exact this
  have HPW : Hid (Pg W p (lay kd cs) ∧ Kept (fun _ => False) w W ∧ W.cell? ⟨w.heap.size, 0, none⟩ = some (.pointer (some ⟨p, 0, none⟩)) ∧ W.cell? ⟨w.heap.size + 1, 0, none⟩ = some (.string key)) := ⟨hP, hK, c1, c2⟩
  have HW : Hid ((w.alloc (.cells #[.pointer (some ⟨p, 0, none⟩)] 124)).alloc (.cells #[.string key] 9) = W) := hW
  have HN : Hid (cs.length = n) := hn
  clear h hP hK hW hn hr
  go_enter Tryz.func113, Tryz.ntmps113
  go_upto_region 1 with fail
  rw [HW.out]
  clear HW
  go_wp2_with fail
  refine Calls.mono (HL.out _ HPW.out.1) ?_; rintro e w1 ⟨rfl, m1, hw1⟩
  have HP1 : Hid (Pg w1 p (lay kd cs) ∧ Kept (fun _ => False) w w1 ∧ w1.cell? ⟨w.heap.size, 0, none⟩ = some (.pointer (some ⟨p, 0, none⟩)) ∧ w1.cell? ⟨w.heap.size + 1, 0, none⟩ = some (.string key)) := by rw [hw1]; exact ⟨HPW.out.1.dr m1, HPW.out.2.1.drewN m1, HPW.out.2.2.1, HPW.out.2.2.2⟩
  clear hw1 HPW c1 c2
  go_wp2_with fail
  refine Calls.mono (HSR.out _ HP1.out.1 HP1.out.2.2.1 HP1.out.2.2.2) ?_; rintro e w2 ⟨i, rfl, HI, m2, hw2⟩
  have HP2 : Hid (Pg w2 p (lay kd cs) ∧ Kept (fun _ => False) w w2 ∧ w2.cell? ⟨w.heap.size, 0, none⟩ = some (.pointer (some ⟨p, 0, none⟩)) ∧ w2.cell? ⟨w.heap.size + 1, 0, none⟩ = some (.string key)) := by rw [hw2]; exact ⟨HP1.out.1.dr m2, HP1.out.2.1.drewN m2, HP1.out.2.2.1, HP1.out.2.2.2⟩
  clear hw2 HP1 HSR
  have d1 := HP2.out.2.2.1
  have d2 := HP2.out.2.2.2
  have HL2 : Hid (∀ m, Calls Tryz.prog 123 #[.pointer (some ⟨p, 0, none⟩)] (w2.drewN m) fun e w' => e = .returned (.int .i64 (n : Int)) ∧ ∃ j, w' = (w2.drewN m).drewN j) := fun m => HL.out _ (HP2.out.1.dr m)
  by_cases hin : i < n
  · have hil : i < cs.length := by rw [HN.out]; exact hin
    have HK2 : Hid (∀ m, Calls Tryz.prog 140 #[.pointer (some ⟨p, 0, none⟩), .int .i64 (i : Int)] (w2.drewN m) fun e w' => e = .returned (.string ⟨cs[i].1.toArray⟩) ∧ ∃ j, w' = (w2.drewN m).drewN j) := HKY.out w2 i hil HP2.out.1
    have HB : Hid (FindO cs key.data.toList i ((⟨cs[i].1.toArray⟩ : ByteArray).toList == key.toList)) := by
      refine ⟨by rw [HN.out]; exact HI.out.1, HI.out.2.1, HI.out.2.2, ?_⟩
      rw [beq_iff_eq, ByteArray.toList_eq, ByteArray.toList_eq]
      constructor
      · intro e
        exact ⟨hil, e⟩
      · rintro ⟨_, e⟩
        exact e
    generalize (ByteArray.mk cs[i].1.toArray) = S at *
    have c3 : (i : Int) < (n : Int) := by omega
    clear hin hil HKY HL HI
    go_wp2_with fail
    go_quiet (first | with_reducible exact Calls.quiet_of (HL2.out _) | with_reducible exact Calls.quiet_of (HK2.out _))
    go_wp2_with fail
    go_ret2
    exact ⟨i, _, rfl, HB.out, HP2.out.2.1.drewN _⟩
  · have HB : Hid (FindO cs key.data.toList i false) := by
      refine ⟨by rw [HN.out]; exact HI.out.1, HI.out.2.1, HI.out.2.2, ?_⟩
      constructor
      · intro e; cases e
      · rintro ⟨hx, _⟩
        rw [HN.out] at hx
        exact absurd hx hin
    have c3 : ¬ (i : Int) < (n : Int) := by omega
    clear hin HKY HL HI
    have HC3 : Hid (¬ (i : Int) < (n : Int)) := c3
    go_wp2_with fail
    have c4 : ¬ (i : Int) < (n : Int) := by have := HC3.out; omega
    go_quiet (with_reducible exact Calls.quiet_of (HL2.out _))
    go_wp2_with fail
    go_ret2
    exact ⟨i, false, rfl, HB.out, HP2.out.2.1.drewN _⟩
end Go.Proofs.YtkhpmmmildcceaaGreat

namespace Go.Proofs.YtkhpmmmildcceaaGreat
open Go.ChangeShapes Go.WideShapes Go.ChangeAt Go.RowKit
set_option linter.unusedVariables false
set_option maxRecDepth 100000
set_option maxRecDepth 100000

theorem endAll (kd : UInt8) (a : List Cel) (h : okC a) : endB (lay kd a) a.length = 256 - tot a := by
  have := lay_end kd a [] (by rw [List.append_nil]; exact h)
  rw [List.append_nil] at this
  exact this
theorem cutL {w : World} {p : Nat} {kd : UInt8} (a b : List Cel) (h : Pg w p (lay kd (a ++ b))) (hok : okC (a ++ b)) : Calls Tryz.prog 117 #[.pointer (some ⟨p, 0, none⟩), .int .i64 (a.length : Int)] w fun e w' => e = .returned (.tuple #[]) ∧ Pg w' p (lay kd a) ∧ Kept (fun i => i = p) w w' := by
  have h2 := hok.2
  rw [tot_append, List.length_append] at h2
  have := cut_is h a.length (a ++ b).length (lay_count kd _ hok) (by rw [List.length_append]; omega) (by rw [List.length_append]; omega) (by rw [endAll kd _ hok, lay_end kd a b hok, tot_append]; omega)
  rw [cut_lay kd a b hok] at this
  exact this
theorem addL {w : World} {p : Nat} {kd : UInt8} (a : List Cel) (key val : ByteArray) (h : Pg w p (lay kd a)) (hok : okC (a ++ [(key.data.toList, val.data.toList)])) : Calls Tryz.prog 118 #[.pointer (some ⟨p, 0, none⟩), .string key, .string val] w fun e w' => e = .returned (.tuple #[]) ∧ Pg w' p (lay kd (a ++ [(key.data.toList, val.data.toList)])) ∧ Kept (fun i => i = p) w w' := by
  have h2 := hok.2
  have h1 := hok.1 (key.data.toList, val.data.toList) (by simp)
  have lk : key.data.toList.length = key.size := by simp
  have lv : val.data.toList.length = val.size := by simp
  have ec : csz (key.data.toList, val.data.toList) = key.size + val.size := by unfold csz; rw [lk, lv]
  rw [tot_append, List.length_append] at h2
  have h3 : tot [((key.data.toList, val.data.toList) : Cel)] = csz (key.data.toList, val.data.toList) + 0 := rfl
  have h4 : ([((key.data.toList, val.data.toList) : Cel)]).length = 1 := rfl
  rw [ec] at h1 h3
  have h5 : 1 ≤ key.size ∧ key.size ≤ 80 := by
    have := h1.1
    have := h1.2.1
    simp only [lk] at *
    omega
  have hoa := okC_left hok
  have := add_core h a.length (a.length + 1) (8 + 2 * a.length) (9 + 2 * a.length) key.size val.size (256 - tot a - (key.size + val.size)) (256 - tot a - val.size) (256 - tot a - key.size) (256 - tot a) (lay_count kd _ hoa) key val rfl rfl (endAll kd a hoa) (by omega) (by omega) (by omega) (by omega) (by omega) rfl (by omega) (by omega) rfl (by omega) (by omega) (by omega)
  have hl := add_lay kd a key.data.toList val.data.toList hok
  rw [lk, lv] at hl
  rw [hl] at this
  exact this
theorem takeL {w : World} {p q : Nat} {kd kd' : UInt8} (a d b : List Cel) (h : Pg w p (lay kd a)) (hq : Pg w q (lay kd' (d ++ b))) (hpq : p ≠ q) (hok : okC (a ++ b)) (hok' : okC (d ++ b)) : Calls Tryz.prog 119 #[.pointer (some ⟨p, 0, none⟩), .pointer (some ⟨q, 0, none⟩), .int .i64 (d.length : Int)] w fun e w' => e = .returned (.tuple #[]) ∧ Pg w' p (lay kd (a ++ b)) ∧ Kept (fun i => i = p) w w' := by
  have h2 := hok.2
  rw [tot_append, List.length_append] at h2
  have h3 := hok'.2
  rw [tot_append, List.length_append] at h3
  have hoa := okC_left hok
  have ea : endB (lay kd' (d ++ b)) (d ++ b).length = 256 - tot d - tot b := by rw [endAll kd' _ hok', tot_append]; omega
  have := take_core h hq hpq a.length (d ++ b).length d.length b.length (a.length + b.length) (256 - tot a) (256 - tot d - tot b) (256 - tot d) (tot b) (256 - tot a - tot b) _ _ _ _ (8 + 2 * a.length) (8 + 2 * d.length) (8 + 2 * (d ++ b).length) (2 * b.length) _ _ _ _ ((tot a : Int) - (tot d : Int)) (lay_count kd _ hoa) (lay_count kd' _ hok') (endAll kd a hoa) ea (lay_end kd' d b hok') (by omega) (by omega) (by omega) (by omega) rfl rfl rfl (by rw [List.length_append]; omega) (by rw [List.length_append]; omega) (by omega) (by rw [List.length_append]) rfl (by omega) (by omega) rfl rfl rfl rfl rfl rfl rfl rfl
  rw [take_lay kd kd' a d b hok hok'] at this
  exact this
/-- The cells with one more, behind the first k, in place of what stands up to r. -/
def putC (cs : List Cel) (k r : Nat) (c : Cel) : List Cel := cs.take k ++ ([c] ++ cs.drop r)
/-- Are a key and a value a cell? -/
def mayC (key val : ByteArray) : Prop := 1 ≤ key.size ∧ key.size ≤ 80 ∧ key.size + val.size ≤ 100
/-- What Put answers. -/
def PutE (kd : UInt8) (cs : List Cel) (key val : ByteArray) (p : Nat) (w : World) (e : Ending) (w' : World) : Prop :=
  (¬ mayC key val ∧ e = .returned (.int .i64 1) ∧ Pg w' p (lay kd cs) ∧ Kept (fun _ => False) w w') ∨
  (mayC key val ∧ ∃ k b, FindO cs key.data.toList k b ∧
    ((256 < 8 + 2 * (putC cs k (if b then k + 1 else k) (key.data.toList, val.data.toList)).length + tot (putC cs k (if b then k + 1 else k) (key.data.toList, val.data.toList)) ∧ e = .returned (.int .i64 2) ∧ Pg w' p (lay kd cs) ∧ Kept (fun _ => False) w w') ∨
     (8 + 2 * (putC cs k (if b then k + 1 else k) (key.data.toList, val.data.toList)).length + tot (putC cs k (if b then k + 1 else k) (key.data.toList, val.data.toList)) ≤ 256 ∧ e = .returned (.int .i64 0) ∧ Pg w' p (lay kd (putC cs k (if b then k + 1 else k) (key.data.toList, val.data.toList))) ∧ Kept (fun i => i = p) w w')))
end Go.Proofs.YtkhpmmmildcceaaGreat
