/- The document's first value of some bytes. -/
import Derived.Test.YtaoboleifdgonaaRPut
import Derived.Test.YtaoboleifdgonaaTripD
import Derived.Laws.DeepStrings4
namespace Go.Proofs.Ytaoboleifdgonaa
open Go.ChangeShapes Go.WideShapes Go.RowKit
set_option linter.unusedVariables false
set_option maxRecDepth 100000
set_option maxRecDepth 100000

theorem one_empty (w : World) : Calls Try.prog 63 #[.string ⟨#[]⟩] w fun e w' => e = .returned (.tuple #[vv 0 0 ⟨#[]⟩, .int .i64 0]) ∧ Below w.heap.size w w' := by
  go_enter Try.func63, Try.ntmps63
  go_wp2_with fail
  try simp only [Exit.inBlock, Exit.then]
  refine bodyPost_ret (end_cell_tmp rfl rfl (load23 (by simp; rfl) (by simp; rfl) (by simp; rfl))) rfl ?_
  exact ⟨rfl, below1 _ _⟩
set_option maxHeartbeats 1000000 in
theorem one_null (s : ByteArray) (h1 : 0 < s.size) (h0 : s[0].toNat = 0) (w : World) : Calls Try.prog 63 #[.string s] w fun e w' => e = .returned (.tuple #[vv 0 0 ⟨#[]⟩, .int .i64 1]) ∧ Below w.heap.size w w' := by
  have hl0 := not_nil (show ¬ s.size = 0 by omega)
  have hl1 : s.toList.isEmpty = false := by simpa using hl0
  have hi : (0 : Int) < (s.size : Int) := by omega
  go_enter Try.func63, Try.ntmps63
  go_wp2_with fail
  try simp only [Exit.inBlock, Exit.then]
  refine bodyPost_ret (end_cell_tmp rfl rfl (load23 (by simp; rfl) (by simp; rfl) (by simp; rfl))) rfl ?_
  exact ⟨rfl, below2 _ _ _⟩
set_option maxHeartbeats 1000000 in
theorem one_other (s : ByteArray) (h1 : 0 < s.size) (k : Nat) (h0 : s[0].toNat = k) (n0 : k ≠ 0) (n1 : k ≠ 1) (n2 : k ≠ 2) (n3 : k ≠ 3) (w : World) : Calls Try.prog 63 #[.string s] w fun e w' => e = .returned (.tuple #[vv k 0 ⟨#[]⟩, .int .i64 0]) ∧ Below w.heap.size w w' := by
  have hl0 := not_nil (show ¬ s.size = 0 by omega)
  have hl1 : s.toList.isEmpty = false := by simpa using hl0
  have hi : (0 : Int) < (s.size : Int) := by omega
  have b0 : ((k : Int) == 0) = false := by simp; omega
  have b1 : ((k : Int) == 1) = false := by simp; omega
  have b2 : ((k : Int) == 2) = false := by simp; omega
  have b3 : ((k : Int) == 3) = false := by simp; omega
  have hk : IntKind.i64.wrap (k : Int) = (k : Int) := by have := s[0].toNat_lt; rw [IntKind.wrap_i64]; omega
  go_enter Try.func63, Try.ntmps63
  go_wp2_with fail
  try simp only [Exit.inBlock, Exit.then]
  refine bodyPost_ret (end_cell_tmp rfl rfl (load23 (by simp; rfl) (by simp; rfl) (by simp; rfl))) rfl ?_
  exact ⟨rfl, below2 _ _ _⟩
set_option maxHeartbeats 1000000 in
theorem one_int_short (s : ByteArray) (h1 : 0 < s.size) (h0 : s[0].toNat = 1) (h9 : s.size < 9) (w : World) : Calls Try.prog 63 #[.string s] w fun e w' => e = .returned (.tuple #[vv 1 0 ⟨#[]⟩, .int .i64 0]) ∧ Below w.heap.size w w' := by
  have hl0 := not_nil (show ¬ s.size = 0 by omega)
  have hl1 : s.toList.isEmpty = false := by simpa using hl0
  have hi : (0 : Int) < (s.size : Int) := by omega
  have hc : (s.size : Int) < 9 := by omega
  go_enter Try.func63, Try.ntmps63
  go_wp2_with fail
  try simp only [Exit.inBlock, Exit.then]
  refine bodyPost_ret (end_cell_tmp rfl rfl (load23 (by simp; rfl) (by simp; rfl) (by simp; rfl))) rfl ?_
  exact ⟨rfl, below2 _ _ _⟩
set_option maxHeartbeats 1000000 in
theorem one_text_short (s : ByteArray) (h1 : 0 < s.size) (h0 : s[0].toNat = 2) (h9 : s.size < 2) (w : World) : Calls Try.prog 63 #[.string s] w fun e w' => e = .returned (.tuple #[vv 2 0 ⟨#[]⟩, .int .i64 0]) ∧ Below w.heap.size w w' := by
  have hl0 := not_nil (show ¬ s.size = 0 by omega)
  have hl1 : s.toList.isEmpty = false := by simpa using hl0
  have hi : (0 : Int) < (s.size : Int) := by omega
  have hc : (s.size : Int) < 2 := by omega
  go_enter Try.func63, Try.ntmps63
  go_wp2_with fail
  try simp only [Exit.inBlock, Exit.then]
  refine bodyPost_ret (end_cell_tmp rfl rfl (load23 (by simp; rfl) (by simp; rfl) (by simp; rfl))) rfl ?_
  exact ⟨rfl, below2 _ _ _⟩
set_option maxHeartbeats 1000000 in
theorem one_text_few (s : ByteArray) (h1 : 0 < s.size) (h0 : s[0].toNat = 2) (h9 : 1 < s.size) (c : Nat) (hcc : s[1].toNat = c) (hfew : s.size < c + 2) (hsz : s.size ≤ 1000000) (w : World) : Calls Try.prog 63 #[.string s] w fun e w' => e = .returned (.tuple #[vv 2 0 ⟨#[]⟩, .int .i64 0]) ∧ Below w.heap.size w w' := by
  have hl0 := not_nil (show ¬ s.size = 0 by omega)
  have hl1 : s.toList.isEmpty = false := by simpa using hl0
  have hi : (0 : Int) < (s.size : Int) := by omega
  have hc : ¬ (s.size : Int) < 2 := by omega
  have hj : (1 : Int) < (s.size : Int) := by omega
  have hf : (s.size : Int) - 2 < (c : Int) := by omega
  have hw : wrap64 (c : Int) = (c : Int) := by have := s[1].toNat_lt; unfold wrap64; omega
  go_enter Try.func63, Try.ntmps63
  go_wp2_with fail
  try simp only [Exit.inBlock, Exit.then]
  refine bodyPost_ret (end_cell_tmp rfl rfl (load23 (by simp; rfl) (by simp; rfl) (by simp; rfl))) rfl ?_
  exact ⟨rfl, below2 _ _ _⟩
set_option maxHeartbeats 1000000 in
theorem one_text_long (s : ByteArray) (h1 : 0 < s.size) (h0 : s[0].toNat = 2) (h9 : 1 < s.size) (c : Nat) (hcc : s[1].toNat = c) (hfew : c + 2 ≤ s.size) (hsz : s.size ≤ 1000000) (hlong : 64 < c) (w : World) : Calls Try.prog 63 #[.string s] w fun e w' => e = .returned (.tuple #[vv 2 0 ⟨#[]⟩, .int .i64 0]) ∧ Below w.heap.size w w' := by
  have hl0 := not_nil (show ¬ s.size = 0 by omega)
  have hl1 : s.toList.isEmpty = false := by simpa using hl0
  have hi : (0 : Int) < (s.size : Int) := by omega
  have hc : ¬ (s.size : Int) < 2 := by omega
  have hj : (1 : Int) < (s.size : Int) := by omega
  have hf : ¬ (s.size : Int) - 2 < (c : Int) := by omega
  have hg : (64 : Int) < (c : Int) := by omega
  go_enter Try.func63, Try.ntmps63
  go_wp2_with fail
  try simp only [Exit.inBlock, Exit.then]
  refine bodyPost_ret (end_cell_tmp rfl rfl (load23 (by simp; rfl) (by simp; rfl) (by simp; rfl))) rfl ?_
  exact ⟨rfl, below2 _ _ _⟩
set_option maxHeartbeats 1000000 in
theorem one_text (s : ByteArray) (h1 : 0 < s.size) (h0 : s[0].toNat = 2) (h9 : 1 < s.size) (c : Nat) (hcc : s[1].toNat = c) (hfew : c + 2 ≤ s.size) (hsz : s.size ≤ 1000000) (hlong : c ≤ 64) (w : World) : Calls Try.prog 63 #[.string s] w fun e w' => e = .returned (.tuple #[vv 2 0 (s.extract 2 (2 + c)), .int .i64 (2 + c)]) ∧ Below w.heap.size w w' := by
  have hl0 := not_nil (show ¬ s.size = 0 by omega)
  have hl1 : s.toList.isEmpty = false := by simpa using hl0
  have hi : (0 : Int) < (s.size : Int) := by omega
  have hc : ¬ (s.size : Int) < 2 := by omega
  have hj : (1 : Int) < (s.size : Int) := by omega
  have hf : ¬ (s.size : Int) - 2 < (c : Int) := by omega
  have hg : ¬ (64 : Int) < (c : Int) := by omega
  have hs0 : (0 : Int) ≤ 2 + (c : Int) := by omega
  have ht : (2 + (c : Int)).toNat = 2 + c := by omega
  have he : (s.extract 2 (2 + c)).size = c := by rw [← len_size, ext_list, List.length_take, List.length_drop, len_size]; omega
  have hs1 : (2 : Int) ≤ 2 + (c : Int) := by omega
  have hs2 : 2 + (c : Int) ≤ (s.size : Int) := by omega
  go_enter Try.func63, Try.ntmps63
  go_wp2_with fail
  go_region
  all_goals go_wp2_with fail
  try simp only [Exit.inBlock, Exit.then]
  refine bodyPost_ret (end_cell_tmp rfl rfl (load23 (by simp; rfl) (by simp; rfl) (by simp; rfl))) rfl ?_
  exact ⟨rfl, (below2 _ _ _).drew⟩
set_option maxHeartbeats 1000000 in
theorem one_bool_short (s : ByteArray) (h1 : 0 < s.size) (h0 : s[0].toNat = 3) (h9 : s.size < 2) (w : World) : Calls Try.prog 63 #[.string s] w fun e w' => e = .returned (.tuple #[vv 3 0 ⟨#[]⟩, .int .i64 0]) ∧ Below w.heap.size w w' := by
  have hl0 := not_nil (show ¬ s.size = 0 by omega)
  have hl1 : s.toList.isEmpty = false := by simpa using hl0
  have hi : (0 : Int) < (s.size : Int) := by omega
  have hc : (s.size : Int) < 2 := by omega
  go_enter Try.func63, Try.ntmps63
  go_wp2_with fail
  try simp only [Exit.inBlock, Exit.then]
  refine bodyPost_ret (end_cell_tmp rfl rfl (load23 (by simp; rfl) (by simp; rfl) (by simp; rfl))) rfl ?_
  exact ⟨rfl, below2 _ _ _⟩
set_option maxHeartbeats 1000000 in
theorem one_bool_big (s : ByteArray) (h1 : 0 < s.size) (h0 : s[0].toNat = 3) (h9 : 1 < s.size) (c : Nat) (hcc : s[1].toNat = c) (hb : 1 < c) (w : World) : Calls Try.prog 63 #[.string s] w fun e w' => e = .returned (.tuple #[vv 3 0 ⟨#[]⟩, .int .i64 0]) ∧ Below w.heap.size w w' := by
  have hl0 := not_nil (show ¬ s.size = 0 by omega)
  have hl1 : s.toList.isEmpty = false := by simpa using hl0
  have hi : (0 : Int) < (s.size : Int) := by omega
  have hc : ¬ (s.size : Int) < 2 := by omega
  have hj : (1 : Int) < (s.size : Int) := by omega
  have hg : (1 : Int) < (c : Int) := by omega
  go_enter Try.func63, Try.ntmps63
  go_wp2_with fail
  try simp only [Exit.inBlock, Exit.then]
  refine bodyPost_ret (end_cell_tmp rfl rfl (load23 (by simp; rfl) (by simp; rfl) (by simp; rfl))) rfl ?_
  exact ⟨rfl, below2 _ _ _⟩
set_option maxHeartbeats 1000000 in
theorem one_bool (s : ByteArray) (h1 : 0 < s.size) (h0 : s[0].toNat = 3) (h9 : 1 < s.size) (c : Nat) (hcc : s[1].toNat = c) (hb : c ≤ 1) (w : World) : Calls Try.prog 63 #[.string s] w fun e w' => e = .returned (.tuple #[vv 3 c ⟨#[]⟩, .int .i64 2]) ∧ Below w.heap.size w w' := by
  have hl0 := not_nil (show ¬ s.size = 0 by omega)
  have hl1 : s.toList.isEmpty = false := by simpa using hl0
  have hi : (0 : Int) < (s.size : Int) := by omega
  have hc : ¬ (s.size : Int) < 2 := by omega
  have hj : (1 : Int) < (s.size : Int) := by omega
  have hg : ¬ (1 : Int) < (c : Int) := by omega
  go_enter Try.func63, Try.ntmps63
  go_wp2_with fail
  try simp only [Exit.inBlock, Exit.then]
  refine bodyPost_ret (end_cell_tmp rfl rfl (load23 (by simp; rfl) (by simp; rfl) (by simp; rfl))) rfl ?_
  exact ⟨rfl, below2 _ _ _⟩
theorem AtF.num {w : World} {b : Nat} {k n : Int} {s : ByteArray} (h : AtF w b k n s) (n' : Int) : AtF (w.setCell ⟨b, 1, none⟩ (.int .i64 n')) b k n' s :=
  ⟨⟨(cell_put _ (fun q => by omega)).trans h.c0, World.cell?_setCell_same' _ _ _ (by rw [h.c1]; rfl), (cell_put _ (fun q => by omega)).trans h.c2⟩, fun j => (World.frozen?_setCells b [.int .i64 n'] 1 w _).trans (h.fz j)⟩
theorem below_set {B : Nat} {w w' : World} (h : Below B w w') (x o : Nat) (u : Value) (hx : B ≤ x) : Below B w (w'.setCell ⟨x, o, none⟩ u) :=
  ⟨h.os, h.tape, h.output, by simpa using h.size, fun i hi => (Below.heap_setCell w' ⟨x, o, none⟩ u i (fun e => by have e' : i = x := e; omega)).trans (h.block i hi)⟩
/-- The number of the bytes from the second on. -/
def foldN (l : List UInt8) (a : Int) : Int := l.foldl stepF a
theorem foldN_snoc (l : List UInt8) (a : Int) (x : UInt8) : foldN (l ++ [x]) a = stepF (foldN l a) x := List.foldl_append
theorem foldN_is : ∀ (l : List UInt8) (a : Int), -9223372036854775808 ≤ a → a ≤ 9223372036854775807 → foldN l a = wrap64 (a * 256 ^ l.length + (worth l : Int))
  | [], a, h1, h2 => by
    show a = _
    simp only [List.length_nil, Int.pow_zero, worth]
    unfold wrap64
    omega
  | x :: l, a, h1, h2 => by
    have hr : -9223372036854775808 ≤ stepF a x ∧ stepF a x ≤ 9223372036854775807 := by rw [stepF_is]; unfold wrap64; omega
    have ih := foldN_is l (stepF a x) hr.1 hr.2
    show foldN l (stepF a x) = _
    rw [ih, stepF_is, worth, List.length_cons, Int.pow_succ]
    have e : a * (256 ^ l.length * 256) + ((x.toNat * 256 ^ l.length + worth l : Nat) : Int) = (a * 256 + (x.toNat : Int)) * 256 ^ l.length + (worth l : Int) := by
      rw [Int.natCast_add, Int.natCast_mul, Int.natCast_pow, Int.add_mul, Int.add_assoc, Int.mul_assoc, Int.mul_comm 256 (256 ^ l.length)]
      rfl
    rw [e]
    generalize a * 256 + (x.toNat : Int) = y
    obtain ⟨q, hq⟩ : ∃ q, wrap64 y = y + q * 18446744073709551616 := ⟨(wrap64 y - y) / 18446744073709551616, by unfold wrap64; omega⟩
    rw [hq, Int.add_mul, Int.mul_assoc, Int.mul_comm 18446744073709551616, ← Int.mul_assoc]
    generalize q * 256 ^ l.length = p
    generalize y * 256 ^ l.length = z
    unfold wrap64
    omega
theorem fold_flip (x : UInt8) (t : List UInt8) (h : t.length = 7) : foldN t ((x.toNat : Int) - 128) = flip (numF (x :: t)) := by
  have hx := x.toNat_lt
  rw [foldN_is _ _ (by omega) (by omega), h]
  have hw := worth_lt t
  rw [h] at hw
  have r := flip_range (numF (x :: t))
  have nr := numF_range (x :: t)
  have e := flip_mod (numF (x :: t)) nr.1 nr.2
  have en : numF (x :: t) = wrap64 (worth (x :: t) : Int) := numF_worth _ _ rfl
  have ew : worth (x :: t) = x.toNat * 72057594037927936 + worth t := by rw [worth, h]
  rw [ew] at en
  have hw' : worth t < 72057594037927936 := hw
  generalize flip (numF (x :: t)) = F at *
  generalize numF (x :: t) = N at *
  rw [show ((256 : Int) ^ 7) = 72057594037927936 from rfl]
  unfold wrap64 at *
  omega
set_option maxHeartbeats 2000000 in
theorem one_int (s : ByteArray) (h1 : 0 < s.size) (h0 : s[0].toNat = 1) (h9 : 9 ≤ s.size) (h9' : 1 < s.size) (hsz : s.size ≤ 1000000) (m : Int) (hm : m = foldN ((s.data.toList.drop 2).take 7) ((s[1].toNat : Int) - 128)) (w : World) : Calls Try.prog 63 #[.string s] w fun e w' => e = .returned (.tuple #[vv 1 m ⟨#[]⟩, .int .i64 9]) ∧ Below w.heap.size w w' := by
  have hl0 := not_nil (show ¬ s.size = 0 by omega)
  have hl1 : s.toList.isEmpty = false := by simpa using hl0
  have hi : (0 : Int) < (s.size : Int) := by omega
  have hj : (1 : Int) < (s.size : Int) := by omega
  have hc : ¬ (s.size : Int) < 9 := by omega
  have HM : Hid (m = foldN ((s.data.toList.drop 2).take 7) ((s[1].toNat : Int) - 128)) := hm
  have HS : Hid (∀ j k (h : j < s.size), j = k + 2 → k < 7 → foldN ((s.data.toList.drop 2).take (k + 1)) ((s[1].toNat : Int) - 128) = bits .or .i64 (wrap64 (foldN ((s.data.toList.drop 2).take k) ((s[1].toNat : Int) - 128) * 256)) (wrap64 (s[j].toNat : Int))) := by
    intro j k h hj h7
    subst hj
    have h' : k < (s.data.toList.drop 2).length := by rw [List.length_drop, len_size]; omega
    rw [List.take_succ_eq_append_getElem h', foldN_snoc, stepF, List.getElem_drop]
    have e : s.data.toList[2 + k]'(by rw [len_size]; omega) = s[k + 2] := by
      simp only [Nat.add_comm 2 k]
      rfl
    rw [e]
  have HC : Hid (s[1].toNat < 256) := s[1].toNat_lt
  obtain ⟨c, hcc⟩ : ∃ c, s[1].toNat = c := ⟨_, rfl⟩
  rw [hcc] at HM HS HC
  have hcs : wrap64 ((c : Int) - 128) = (c : Int) - 128 := by have := HC.out; unfold wrap64; omega
  have hcw : wrap64 (c : Int) = (c : Int) := by have := HC.out; unfold wrap64; omega
  have HA : Hid (AtF ((w.alloc (.cells #[.int .i64 0, .int .i64 0, .string ⟨#[]⟩] 56)).alloc (.cells #[.int .i64 1, .int .i64 ((c : Int) - 128), .string ⟨#[]⟩] 56)) w.heap.size 0 0 ⟨#[]⟩ ∧ AtF ((w.alloc (.cells #[.int .i64 0, .int .i64 0, .string ⟨#[]⟩] 56)).alloc (.cells #[.int .i64 1, .int .i64 ((c : Int) - 128), .string ⟨#[]⟩] 56)) (w.heap.size + 1) 1 ((c : Int) - 128) ⟨#[]⟩) := by
    refine ⟨(AtF.new w 0 0 ⟨#[]⟩).next (below1 _ _), ?_⟩
    have := AtF.new (w.alloc (.cells #[.int .i64 0, .int .i64 0, .string ⟨#[]⟩] 56)) 1 ((c : Int) - 128) ⟨#[]⟩
    rwa [show (w.alloc (.cells #[.int .i64 0, .int .i64 0, .string ⟨#[]⟩] 56)).heap.size = w.heap.size + 1 by simp] at this
  clear hm
  go_enter Try.func63, Try.ntmps63
  go_wp2_with fail
  go_loopw [5] (fun i wr => ∃ (j k : Nat) (n : Int), j ≤ 9 ∧ i = .int .i64 (j : Int) ∧ Hid (j = k + 2) ∧ Hid (AtF wr w.heap.size 0 0 ⟨#[]⟩ ∧ AtF wr (w.heap.size + 1) 1 n ⟨#[]⟩ ∧ Below w.heap.size w wr ∧ n = foldN ((s.data.toList.drop 2).take k) ((c : Int) - 128)))
    (fun i _ => 9 - (intOf i).toNat)
  case atStart => exact ⟨2, 0, _, by omega, rfl, rfl, HA.out.1, HA.out.2, below2 _ _ _, rfl⟩
  case round =>
    obtain ⟨j, k, n, hk, rfl, HJ, HI⟩ := hrel
    obtain ⟨⟨p0, p1, p2⟩, pf⟩ := HI.out.1
    obtain ⟨⟨q0, q1, q2⟩, qf⟩ := HI.out.2.1
    have pf0 := pf 0
    have pf1 := pf 1
    have pf2 := pf 2
    have qf1 := qf 1
    by_cases hlt : j < 9
    · have hlti : (j : Int) < 9 := by omega
      have hlt2 : j < s.size := by omega
      have hlt3 : (j : Int) < (s.size : Int) := by omega
      have HE := (show Hid _ from HS.out j k hlt2 HJ.out (by have := HJ.out; omega))
      clear qf pf
      go_wp2_with fail
      go_region
      all_goals go_wp2_with fail
      go_roundw
      case rel =>
        refine ⟨j + 1, k + 1, bits .or .i64 (wrap64 (n * 256)) (wrap64 (s[j].toNat : Int)), by omega, by go_num, (by have := HJ.out; show j + 1 = k + 1 + 2; omega), ?_⟩
        have I := HI.out
        exact ⟨(I.1.put _ _ _ (by omega)).next (Below.refl _ _).drew, (I.2.1.num _).next (Below.refl _ _).drew, (below_set I.2.2.1 _ _ _ (by omega)).drew, by rw [HE.out, ← I.2.2.2]⟩
      case measure => simp [intOf]; omega
    · have hlti : ¬ (j : Int) < 9 := by omega
      have HE : Hid (n = m) := by have := HI.out.2.2.2; rw [show k = 7 by have := HJ.out; omega, ← HM.out] at this; exact this
      clear qf pf
      go_wp2_with fail
      try simp only [Exit.inBlock, Exit.then]
      have T := AtF.three HI.out.1 1 n ⟨#[]⟩
      refine bodyPost_ret (end_cell_tmp rfl rfl (load23 T.c0 T.c1 T.c2)) rfl ?_
      exact ⟨by rw [HE.out]; rfl, below_set (below_set (below_set HI.out.2.2.1 _ _ _ (Nat.le_refl _)) _ _ _ (Nat.le_refl _)) _ _ _ (Nat.le_refl _)⟩
end Go.Proofs.Ytaoboleifdgonaa
