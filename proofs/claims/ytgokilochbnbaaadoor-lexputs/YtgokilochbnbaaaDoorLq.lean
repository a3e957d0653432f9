/- LexPuts walked. -/
import Derived.Test.YtgokilochbnbaaaDoorRf
import Derived.Test.YtgokilochbnbaaaDoorLb
import Derived.Deep.RegionHeld
import Derived.BigQuiet
namespace Go.Proofs.YtgokilochbnbaaaDoor
open Go.ChangeShapes Go.WideShapes Go.ChangeAt Go.RowKit
set_option linter.unusedVariables false
set_option maxRecDepth 100000

theorem puts_long (k n a : Int) (s : ByteArray) (h : 512 < (s.size : Int)) (w : World) (hg : Glob w) : Calls Tryd.prog 4 #[tv k s n a] w fun e w' => e = .returned (.bool true) ∧ Below w.heap.size w w' := by
  have HA : Hid AwkC := awk_c
  have HG : Hid (Glob (w.alloc (.cells #[.int .i64 k, .string s, .int .i64 n, .int .i64 a] 29))) := hg.next (below1 _ _)
  clear hg
  go_enter Tryd.func4, Tryd.ntmps4
  go_wp2_with fail
  refine Calls.mono (HA.out _ HG.out) ?_; rintro e w1 ⟨rfl, k1⟩
  have HK : Hid (Below w.heap.size w w1) := Below.next (below1 _ _) k1
  clear k1
  go_wp2_with fail
  go_ret
  exact ⟨rfl, HK.out⟩
set_option maxHeartbeats 2000000 in
theorem puts_core (k n a : Int) (s R : ByteArray) (kb wb : Bool) (h : ¬ 512 < (s.size : Int)) (H12 : Hid (∀ W, Glob W → Calls Tryd.prog 12 #[tv k s n a] W fun e W' => e = .returned (.string R) ∧ Below W.heap.size W W')) (H13 : Hid (∀ W, Glob W → Calls Tryd.prog 13 #[tv k s n a] W fun e W' => e = .returned (.string R) ∧ Below W.heap.size W W')) (H14 : Hid (∀ W, Glob W → Calls Tryd.prog 14 #[.string s] W fun e W' => e = .returned (.bool kb) ∧ Below W.heap.size W W')) (H15 : Hid (∀ W, Glob W → Calls Tryd.prog 15 #[.string s] W fun e W' => e = .returned (.bool kb) ∧ Below W.heap.size W W')) (H16 : Hid (∀ W, Glob W → Calls Tryd.prog 16 #[.string s] W fun e W' => e = .returned (.bool wb) ∧ Below W.heap.size W W')) (H17 : Hid (∀ W, Glob W → Calls Tryd.prog 17 #[.string s] W fun e W' => e = .returned (.bool wb) ∧ Below W.heap.size W W')) (H8 : Hid (∀ W, Glob W → Calls Tryd.prog 8 #[] W fun e W' => e = .returned (.bool true) ∧ Below W.heap.size W W')) (w : World) (hg : Glob w) : Calls Tryd.prog 4 #[tv k s n a] w fun e w' => e = .returned (.bool true) ∧ Below w.heap.size w w' := by
  have HAt : Hid (AtK (w.alloc (.cells #[.int .i64 k, .string s, .int .i64 n, .int .i64 a] 29)) w.heap.size k s n a) := AtK.new w k s n a
  have HS0 : Hid ((Below w.heap.size w (w.alloc (.cells #[.int .i64 k, .string s, .int .i64 n, .int .i64 a] 29)).drew ∧ Glob (w.alloc (.cells #[.int .i64 k, .string s, .int .i64 n, .int .i64 a] 29)).drew) ∧ ((w.alloc (.cells #[.int .i64 k, .string s, .int .i64 n, .int .i64 a] 29)).drew.cell? ⟨w.heap.size, 0, none⟩ = some (.int .i64 k) ∧ (w.alloc (.cells #[.int .i64 k, .string s, .int .i64 n, .int .i64 a] 29)).drew.cell? ⟨w.heap.size, 1, none⟩ = some (.string s) ∧ (w.alloc (.cells #[.int .i64 k, .string s, .int .i64 n, .int .i64 a] 29)).drew.cell? ⟨w.heap.size, 2, none⟩ = some (.int .i64 n) ∧ (w.alloc (.cells #[.int .i64 k, .string s, .int .i64 n, .int .i64 a] 29)).drew.cell? ⟨w.heap.size, 3, none⟩ = some (.int .i64 a))) := ⟨⟨(below1 _ _).drew, hg.next (below1 _ _).drew⟩, HAt.out.c0, HAt.out.c1, HAt.out.c2, HAt.out.c3⟩
  have HST : Hid (∀ V W : World, Below V.heap.size V W → ((Below w.heap.size w V ∧ Glob V) ∧ (V.cell? ⟨w.heap.size, 0, none⟩ = some (.int .i64 k) ∧ V.cell? ⟨w.heap.size, 1, none⟩ = some (.string s) ∧ V.cell? ⟨w.heap.size, 2, none⟩ = some (.int .i64 n) ∧ V.cell? ⟨w.heap.size, 3, none⟩ = some (.int .i64 a))) → ((Below w.heap.size w W ∧ Glob W) ∧ (W.cell? ⟨w.heap.size, 0, none⟩ = some (.int .i64 k) ∧ W.cell? ⟨w.heap.size, 1, none⟩ = some (.string s) ∧ W.cell? ⟨w.heap.size, 2, none⟩ = some (.int .i64 n) ∧ W.cell? ⟨w.heap.size, 3, none⟩ = some (.int .i64 a)))) := fun V W q h => by
    have hk : ∀ {o : Nat} {u : Value}, V.cell? ⟨w.heap.size, o, none⟩ = some u → W.cell? ⟨w.heap.size, o, none⟩ = some u := fun {o u} hu => (q.cell (p := ⟨w.heap.size, o, none⟩) (World.block_lt_of_cell? V _ hu)).trans hu
    exact ⟨⟨Below.less h.1.1 q h.1.1.size, h.1.2.next q⟩, hk h.2.1, hk h.2.2.1, hk h.2.2.2.1, hk h.2.2.2.2⟩
  have GH12 : Hid (∀ W, ((Below w.heap.size w W ∧ Glob W) ∧ (W.cell? ⟨w.heap.size, 0, none⟩ = some (.int .i64 k) ∧ W.cell? ⟨w.heap.size, 1, none⟩ = some (.string s) ∧ W.cell? ⟨w.heap.size, 2, none⟩ = some (.int .i64 n) ∧ W.cell? ⟨w.heap.size, 3, none⟩ = some (.int .i64 a))) → Calls Tryd.prog 12 #[tv k s n a] W fun e W' => e = .returned (.string R) ∧ ((Below w.heap.size w W' ∧ Glob W') ∧ (W'.cell? ⟨w.heap.size, 0, none⟩ = some (.int .i64 k) ∧ W'.cell? ⟨w.heap.size, 1, none⟩ = some (.string s) ∧ W'.cell? ⟨w.heap.size, 2, none⟩ = some (.int .i64 n) ∧ W'.cell? ⟨w.heap.size, 3, none⟩ = some (.int .i64 a)))) := fun W h => (H12.out W h.1.2).mono (fun e W' q => ⟨q.1, HST.out W W' q.2 h⟩)
  have GH13 : Hid (∀ W, ((Below w.heap.size w W ∧ Glob W) ∧ (W.cell? ⟨w.heap.size, 0, none⟩ = some (.int .i64 k) ∧ W.cell? ⟨w.heap.size, 1, none⟩ = some (.string s) ∧ W.cell? ⟨w.heap.size, 2, none⟩ = some (.int .i64 n) ∧ W.cell? ⟨w.heap.size, 3, none⟩ = some (.int .i64 a))) → Calls Tryd.prog 13 #[tv k s n a] W fun e W' => e = .returned (.string R) ∧ ((Below w.heap.size w W' ∧ Glob W') ∧ (W'.cell? ⟨w.heap.size, 0, none⟩ = some (.int .i64 k) ∧ W'.cell? ⟨w.heap.size, 1, none⟩ = some (.string s) ∧ W'.cell? ⟨w.heap.size, 2, none⟩ = some (.int .i64 n) ∧ W'.cell? ⟨w.heap.size, 3, none⟩ = some (.int .i64 a)))) := fun W h => (H13.out W h.1.2).mono (fun e W' q => ⟨q.1, HST.out W W' q.2 h⟩)
  have GH14 : Hid (∀ W, ((Below w.heap.size w W ∧ Glob W) ∧ (W.cell? ⟨w.heap.size, 0, none⟩ = some (.int .i64 k) ∧ W.cell? ⟨w.heap.size, 1, none⟩ = some (.string s) ∧ W.cell? ⟨w.heap.size, 2, none⟩ = some (.int .i64 n) ∧ W.cell? ⟨w.heap.size, 3, none⟩ = some (.int .i64 a))) → Calls Tryd.prog 14 #[.string s] W fun e W' => e = .returned (.bool kb) ∧ ((Below w.heap.size w W' ∧ Glob W') ∧ (W'.cell? ⟨w.heap.size, 0, none⟩ = some (.int .i64 k) ∧ W'.cell? ⟨w.heap.size, 1, none⟩ = some (.string s) ∧ W'.cell? ⟨w.heap.size, 2, none⟩ = some (.int .i64 n) ∧ W'.cell? ⟨w.heap.size, 3, none⟩ = some (.int .i64 a)))) := fun W h => (H14.out W h.1.2).mono (fun e W' q => ⟨q.1, HST.out W W' q.2 h⟩)
  have GH15 : Hid (∀ W, ((Below w.heap.size w W ∧ Glob W) ∧ (W.cell? ⟨w.heap.size, 0, none⟩ = some (.int .i64 k) ∧ W.cell? ⟨w.heap.size, 1, none⟩ = some (.string s) ∧ W.cell? ⟨w.heap.size, 2, none⟩ = some (.int .i64 n) ∧ W.cell? ⟨w.heap.size, 3, none⟩ = some (.int .i64 a))) → Calls Tryd.prog 15 #[.string s] W fun e W' => e = .returned (.bool kb) ∧ ((Below w.heap.size w W' ∧ Glob W') ∧ (W'.cell? ⟨w.heap.size, 0, none⟩ = some (.int .i64 k) ∧ W'.cell? ⟨w.heap.size, 1, none⟩ = some (.string s) ∧ W'.cell? ⟨w.heap.size, 2, none⟩ = some (.int .i64 n) ∧ W'.cell? ⟨w.heap.size, 3, none⟩ = some (.int .i64 a)))) := fun W h => (H15.out W h.1.2).mono (fun e W' q => ⟨q.1, HST.out W W' q.2 h⟩)
  have GH16 : Hid (∀ W, ((Below w.heap.size w W ∧ Glob W) ∧ (W.cell? ⟨w.heap.size, 0, none⟩ = some (.int .i64 k) ∧ W.cell? ⟨w.heap.size, 1, none⟩ = some (.string s) ∧ W.cell? ⟨w.heap.size, 2, none⟩ = some (.int .i64 n) ∧ W.cell? ⟨w.heap.size, 3, none⟩ = some (.int .i64 a))) → Calls Tryd.prog 16 #[.string s] W fun e W' => e = .returned (.bool wb) ∧ ((Below w.heap.size w W' ∧ Glob W') ∧ (W'.cell? ⟨w.heap.size, 0, none⟩ = some (.int .i64 k) ∧ W'.cell? ⟨w.heap.size, 1, none⟩ = some (.string s) ∧ W'.cell? ⟨w.heap.size, 2, none⟩ = some (.int .i64 n) ∧ W'.cell? ⟨w.heap.size, 3, none⟩ = some (.int .i64 a)))) := fun W h => (H16.out W h.1.2).mono (fun e W' q => ⟨q.1, HST.out W W' q.2 h⟩)
  have GH17 : Hid (∀ W, ((Below w.heap.size w W ∧ Glob W) ∧ (W.cell? ⟨w.heap.size, 0, none⟩ = some (.int .i64 k) ∧ W.cell? ⟨w.heap.size, 1, none⟩ = some (.string s) ∧ W.cell? ⟨w.heap.size, 2, none⟩ = some (.int .i64 n) ∧ W.cell? ⟨w.heap.size, 3, none⟩ = some (.int .i64 a))) → Calls Tryd.prog 17 #[.string s] W fun e W' => e = .returned (.bool wb) ∧ ((Below w.heap.size w W' ∧ Glob W') ∧ (W'.cell? ⟨w.heap.size, 0, none⟩ = some (.int .i64 k) ∧ W'.cell? ⟨w.heap.size, 1, none⟩ = some (.string s) ∧ W'.cell? ⟨w.heap.size, 2, none⟩ = some (.int .i64 n) ∧ W'.cell? ⟨w.heap.size, 3, none⟩ = some (.int .i64 a)))) := fun W h => (H17.out W h.1.2).mono (fun e W' q => ⟨q.1, HST.out W W' q.2 h⟩)
  have GH8 : Hid (∀ W, ((Below w.heap.size w W ∧ Glob W) ∧ (W.cell? ⟨w.heap.size, 0, none⟩ = some (.int .i64 k) ∧ W.cell? ⟨w.heap.size, 1, none⟩ = some (.string s) ∧ W.cell? ⟨w.heap.size, 2, none⟩ = some (.int .i64 n) ∧ W.cell? ⟨w.heap.size, 3, none⟩ = some (.int .i64 a))) → Calls Tryd.prog 8 #[] W fun e W' => e = .returned (.bool true) ∧ ((Below w.heap.size w W' ∧ Glob W') ∧ (W'.cell? ⟨w.heap.size, 0, none⟩ = some (.int .i64 k) ∧ W'.cell? ⟨w.heap.size, 1, none⟩ = some (.string s) ∧ W'.cell? ⟨w.heap.size, 2, none⟩ = some (.int .i64 n) ∧ W'.cell? ⟨w.heap.size, 3, none⟩ = some (.int .i64 a)))) := fun W h => (H8.out W h.1.2).mono (fun e W' q => ⟨q.1, HST.out W W' q.2 h⟩)
  clear H12 H13 H14 H15 H16 H17 H8 HST HAt hg
  cases kb <;> cases wb
  all_goals go_enter Tryd.func4, Tryd.ntmps4
  all_goals go_wp2_with fail
  all_goals go_region_held (fun (W : World) => ((Below w.heap.size w W ∧ Glob W) ∧ (W.cell? ⟨w.heap.size, 0, none⟩ = some (.int .i64 k) ∧ W.cell? ⟨w.heap.size, 1, none⟩ = some (.string s) ∧ W.cell? ⟨w.heap.size, 2, none⟩ = some (.int .i64 n) ∧ W.cell? ⟨w.heap.size, 3, none⟩ = some (.int .i64 a)))) (first | exact HS0.out | with_reducible assumption)
    (first
    | ((with_reducible refine Calls.mono (GH12.out _ (by with_reducible assumption)) ?_); rintro e w3 ⟨rfl, hS3⟩)
    | ((with_reducible refine Calls.mono (GH13.out _ (by with_reducible assumption)) ?_); rintro e w3 ⟨rfl, hS3⟩)
    | ((with_reducible refine Calls.mono (GH14.out _ (by with_reducible assumption)) ?_); rintro e w3 ⟨rfl, hS3⟩)
    | ((with_reducible refine Calls.mono (GH15.out _ (by with_reducible assumption)) ?_); rintro e w3 ⟨rfl, hS3⟩)
    | ((with_reducible refine Calls.mono (GH16.out _ (by with_reducible assumption)) ?_); rintro e w3 ⟨rfl, hS3⟩)
    | ((with_reducible refine Calls.mono (GH17.out _ (by with_reducible assumption)) ?_); rintro e w3 ⟨rfl, hS3⟩)
    | ((with_reducible refine Calls.mono (GH8.out _ (by with_reducible assumption)) ?_); rintro e w3 ⟨rfl, hS3⟩)
    )
  all_goals have HB3 : Hid (Below w.heap.size w w3) := hS3.1.1
  all_goals clear hS3
  all_goals go_wp2_with fail
  all_goals go_ret
  all_goals exact ⟨rfl, HB3.out⟩
theorem walk_puts (k n a : Int) (s : ByteArray) (hn : -9223372036854775808 ≤ n ∧ n ≤ 9223372036854775807) (w : World) (hg : Glob w) : Calls Tryd.prog 4 #[tv k s n a] w fun e w' => e = .returned (.bool true) ∧ Below w.heap.size w w' := by
  by_cases h : 512 < s.size
  · exact puts_long k n a s (by omega) w hg
  · refine puts_core k n a s ⟨(putV k s.data.toList n).toArray⟩ (keyB s.data.toList) (wordB s.data.toList) (by omega) (fun W hg => put_is s (by omega) k n a hn W hg) (fun W _ => rput_is s (by omega) k n a hn W) (fun W _ => ?_) (fun W _ => key_ref s W) (fun W hg => word_is' s (by omega) W hg) (fun W _ => word_ref s (by omega) W) (fun W hg => awake_is W hg) w hg
    have := key_is s W
    rw [ByteArray.toList_eq] at this
    exact this.mono (fun e W' q => ⟨q.1, q.2 ▸ Below.refl _ _⟩)
end Go.Proofs.YtgokilochbnbaaaDoor
