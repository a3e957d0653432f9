/- cut, add, take, of cells. -/
import Derived.Test.YtehaancdadmdkaaFn
namespace Go.Proofs.Ytehaancdadmdkaa
open Go.ChangeShapes Go.WideShapes Go.ChangeAt Go.RowKit
set_option linter.unusedVariables false
set_option maxRecDepth 100000

theorem endAll (kd : UInt8) (a : List Cel) (h : okC a) : endB (lay kd a) a.length = 256 - tot a := by
  have := lay_end kd a [] (by rw [List.append_nil]; exact h)
  rw [List.append_nil] at this
  exact this
theorem cutL {w : World} {p : Nat} {kd : UInt8} (a b : List Cel) (h : Pg w p (lay kd (a ++ b))) (hok : okC (a ++ b)) : Calls Try.prog 45 #[.pointer (some ⟨p, 0, none⟩), .int .i64 (a.length : Int)] w fun e w' => e = .returned (.tuple #[]) ∧ Pg w' p (lay kd a) ∧ Kept (fun i => i = p) w w' := by
  have h2 := hok.2
  rw [tot_append, List.length_append] at h2
  have := cut_is h a.length (a ++ b).length (lay_count kd _ hok) (by rw [List.length_append]; omega) (by rw [List.length_append]; omega) (by rw [endAll kd _ hok, lay_end kd a b hok, tot_append]; omega)
  rw [cut_lay kd a b hok] at this
  exact this
theorem addL {w : World} {p : Nat} {kd : UInt8} (a : List Cel) (key val : ByteArray) (h : Pg w p (lay kd a)) (hok : okC (a ++ [(key.data.toList, val.data.toList)])) : Calls Try.prog 50 #[.pointer (some ⟨p, 0, none⟩), .string key, .string val] w fun e w' => e = .returned (.tuple #[]) ∧ Pg w' p (lay kd (a ++ [(key.data.toList, val.data.toList)])) ∧ Kept (fun i => i = p) w w' := by
  have h2 := hok.2
  have h1 := hok.1 (key.data.toList, val.data.toList) (by simp)
  have lk : key.data.toList.length = key.size := by simp
  have lv : val.data.toList.length = val.size := by simp
  have ec : csz (key.data.toList, val.data.toList) = key.size + val.size := by unfold csz; rw [lk, lv]
  rw [tot_append, List.length_append] at h2
  have h3 : tot [((key.data.toList, val.data.toList) : Cel)] = csz (key.data.toList, val.data.toList) + 0 := rfl
  have h4 : ([((key.data.toList, val.data.toList) : Cel)]).length = 1 := rfl
  rw [ec] at h1 h3
  have h5 : 1 ≤ key.size ∧ key.size ≤ 80 := by
    have := h1.1
    have := h1.2.1
    simp only [lk] at *
    omega
  have hoa := okC_left hok
  have := add_core h a.length (a.length + 1) (8 + 2 * a.length) (9 + 2 * a.length) key.size val.size (256 - tot a - (key.size + val.size)) (256 - tot a - val.size) (256 - tot a - key.size) (256 - tot a) (lay_count kd _ hoa) key val rfl rfl (endAll kd a hoa) (by omega) (by omega) (by omega) (by omega) (by omega) rfl (by omega) (by omega) rfl (by omega) (by omega) (by omega)
  have hl := add_lay kd a key.data.toList val.data.toList hok
  rw [lk, lv] at hl
  rw [hl] at this
  exact this
theorem takeL {w : World} {p q : Nat} {kd kd' : UInt8} (a d b : List Cel) (h : Pg w p (lay kd a)) (hq : Pg w q (lay kd' (d ++ b))) (hpq : p ≠ q) (hok : okC (a ++ b)) (hok' : okC (d ++ b)) : Calls Try.prog 44 #[.pointer (some ⟨p, 0, none⟩), .pointer (some ⟨q, 0, none⟩), .int .i64 (d.length : Int)] w fun e w' => e = .returned (.tuple #[]) ∧ Pg w' p (lay kd (a ++ b)) ∧ Kept (fun i => i = p) w w' := by
  have h2 := hok.2
  rw [tot_append, List.length_append] at h2
  have h3 := hok'.2
  rw [tot_append, List.length_append] at h3
  have hoa := okC_left hok
  have ea : endB (lay kd' (d ++ b)) (d ++ b).length = 256 - tot d - tot b := by rw [endAll kd' _ hok', tot_append]; omega
  have := take_core h hq hpq a.length (d ++ b).length d.length b.length (a.length + b.length) (256 - tot a) (256 - tot d - tot b) (256 - tot d) (tot b) (256 - tot a - tot b) _ _ _ _ (8 + 2 * a.length) (8 + 2 * d.length) (8 + 2 * (d ++ b).length) (2 * b.length) _ _ _ _ ((tot a : Int) - (tot d : Int)) (lay_count kd _ hoa) (lay_count kd' _ hok') (endAll kd a hoa) ea (lay_end kd' d b hok') (by omega) (by omega) (by omega) (by omega) rfl rfl rfl (by rw [List.length_append]; omega) (by rw [List.length_append]; omega) (by omega) (by rw [List.length_append]) rfl (by omega) (by omega) rfl rfl rfl rfl rfl rfl rfl rfl
  rw [take_lay kd kd' a d b hok hok'] at this
  exact this
/-- The cells with one more, behind the first k, in place of what stands up to r. -/
def putC (cs : List Cel) (k r : Nat) (c : Cel) : List Cel := cs.take k ++ ([c] ++ cs.drop r)
/-- Are a key and a value a cell? -/
def mayC (key val : ByteArray) : Prop := 1 ≤ key.size ∧ key.size ≤ 80 ∧ key.size + val.size ≤ 100
/-- What Put answers. -/
def PutE (kd : UInt8) (cs : List Cel) (key val : ByteArray) (p : Nat) (w : World) (e : Ending) (w' : World) : Prop :=
  (¬ mayC key val ∧ e = .returned (.int .i64 1) ∧ Pg w' p (lay kd cs) ∧ Kept (fun _ => False) w w') ∨
  (mayC key val ∧ ∃ k b, FindO cs key.data.toList k b ∧
    ((256 < 8 + 2 * (putC cs k (if b then k + 1 else k) (key.data.toList, val.data.toList)).length + tot (putC cs k (if b then k + 1 else k) (key.data.toList, val.data.toList)) ∧ e = .returned (.int .i64 2) ∧ Pg w' p (lay kd cs) ∧ Kept (fun _ => False) w w') ∨
     (8 + 2 * (putC cs k (if b then k + 1 else k) (key.data.toList, val.data.toList)).length + tot (putC cs k (if b then k + 1 else k) (key.data.toList, val.data.toList)) ≤ 256 ∧ e = .returned (.int .i64 0) ∧ Pg w' p (lay kd (putC cs k (if b then k + 1 else k) (key.data.toList, val.data.toList))) ∧ Kept (fun i => i = p) w w')))
end Go.Proofs.Ytehaancdadmdkaa
