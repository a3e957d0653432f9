/- slices.Insert of a stock: at the end, and where there is no room. -/
import Derived.Test.YtflbcheofmljeaaIns
namespace Go.Proofs.Ytflbcheofmljeaa
open Go.ChangeShapes Go.WideShapes Go.RowKit
set_option linter.unusedVariables false
set_option maxRecDepth 100000

theorem ins_list2 (R F Z sx : List Value) (n i : Nat) (hi : i < n) (hFl : F.length = n * 4) (hR : R = F.take (i * 4) ++ Z) (hZ : (n + 1 - i) * 4 ≤ Z.length) (hs : sx.length = 4) :
    let B1 := R.take (i * 4) ++ sx ++ R.drop (i * 4 + sx.length)
    (B1.take ((i + 1) * 4) ++ F.drop (i * 4) ++ B1.drop ((i + 1) * 4 + (F.drop (i * 4)).length)).take ((n + 1) * 4) = F.take (i * 4) ++ sx ++ F.drop (i * 4) ∧ (B1.take ((i + 1) * 4) ++ F.drop (i * 4) ++ B1.drop ((i + 1) * 4 + (F.drop (i * 4)).length)).length = R.length ∧ B1.length = R.length := by
  intro B1
  have hd : (F.drop (i * 4)).length = (n - i) * 4 := by rw [List.length_drop, hFl, Nat.sub_mul]
  have hFt : (F.take (i * 4)).length = i * 4 := by rw [List.length_take, hFl]; omega
  have hRl : R.length = i * 4 + Z.length := by rw [hR, List.length_append, hFt]
  have hRt : R.take (i * 4) = F.take (i * 4) := by rw [hR]; exact List.take_left' hFt
  have h1 : B1.length = R.length := by
    show (R.take (i * 4) ++ sx ++ R.drop (i * 4 + sx.length)).length = _
    rw [List.length_append, List.length_append, List.length_take, List.length_drop, hs]
    omega
  have ht : B1.take ((i + 1) * 4) = F.take (i * 4) ++ sx := by
    show (R.take (i * 4) ++ sx ++ R.drop (i * 4 + sx.length)).take ((i + 1) * 4) = _
    rw [hRt]
    exact List.take_left' (by rw [List.length_append, hFt, hs]; omega)
  refine ⟨?_, ?_, h1⟩
  · rw [ht]
    have e : (n + 1) * 4 = (F.take (i * 4) ++ sx ++ F.drop (i * 4)).length := by
      rw [List.length_append, List.length_append, hFt, hd, hs]
      omega
    rw [e, List.take_left]
  · rw [List.length_append, List.length_append, List.length_take, hd, List.length_drop, h1]
    omega
set_option maxHeartbeats 4000000 in
theorem insert_grow (g n c i vb : Nat) (cur : Array Value) (l : List Stk) (x : Stk) (w : World) (hn : l.length = n) (hi : i < n) (hnc : n ≤ c) (hroom : c < n + 1) (hc : n ≤ 100000) (hg : w.heap[g]? = some (.cells cur 50 (0, 0))) (hsz : cur.size = c * 4) (hcs : cur.toList.take (n * 4) = l.flatMap stv)
    (hv : w.heap[vb]? = some (.cells #[.string x.sku, .string x.loc, .int .i64 x.on, .int .i64 x.held] 50 (0, 0))) :
    Calls Try.prog 102 #[.slice (some ⟨g, 0, none⟩) n c, .int .i64 (i : Int), .slice (some ⟨vb, 0, none⟩) 1 1] w fun e w' =>
      ∃ cap, e = .returned (.slice (some ⟨w.heap.size, 0, none⟩) (n + 1) cap) ∧ w'.ownsRow 0 50 4 (.slice (some ⟨w.heap.size, 0, none⟩) (n + 1) cap) (n + 1) ((insAt l i x).flatMap stv) ∧ w.grownBy w' (some g) := by
  obtain ⟨inf, hi0, hz0, hzs, hzb⟩ := info_of info50
  have hcn : c = n := by omega
  subst hcn
  have hgl : g < w.heap.size := (Array.getElem?_eq_some_iff.1 hg).1
  have hvl : vb < w.heap.size := (Array.getElem?_eq_some_iff.1 hv).1
  have hFl : (l.flatMap stv).length = c * 4 := by rw [stv_flat_len, hn]
  have hold : (Builtin.firstCells inf.size i (.slice (some ⟨g, 0, none⟩) i c)).run Try.prog w.drew = .ok ((l.flatMap stv).take (i * 4)).toArray w.drew := by
    rw [hzs]
    exact run_firstCells_some w.drew 4 i ⟨g, 0, none⟩ i c ((l.flatMap stv).take (i * 4)) (by rw [List.length_take, hFl]; omega) (fun j v hj => by
      rw [Go.WideShapes.add_plain, Nat.zero_add, cell_of_row w.drew g j cur 50 (0, 0) hg]
      rw [← hcs, List.getElem?_take] at hj
      split at hj
      · rw [List.getElem?_take] at hj
        split at hj
        · rw [← Array.getElem?_toList]; exact hj
        · cases hj
      · cases hj)
  have hkk : (c : Int) + 1 - (i : Int) = ((c + 1 - i : Nat) : Int) := by omega
  have hik : i + (c + 1 - i) = c + 1 := by omega
  obtain ⟨G, hG⟩ : ∃ G, G = grownCap w (c + 1) c 50 := ⟨_, rfl⟩
  have hGge : c + 1 ≤ G := by rw [hG]; exact grownCap_ge _ _ _ _
  have hGle : G ≤ maxLen := by rw [hG]; exact grownCap_le_maxLen _ _ _ _ (by unfold maxLen; omega)
  obtain ⟨R, hR⟩ : ∃ R : List Value, R = (l.flatMap stv).take (i * 4) ++ ((Builtin.zeroCells (Value.agg #[.string ⟨#[]⟩, .string ⟨#[]⟩, .int .i64 0, .int .i64 0]).cells (c + 1 - i)).toList ++ (Builtin.zeroCells (Value.agg #[.string ⟨#[]⟩, .string ⟨#[]⟩, .int .i64 0, .int .i64 0]).cells (G - (c + 1))).toList) := ⟨_, rfl⟩
  have hzc : ∀ k, (Builtin.zeroCells (Value.agg #[.string ⟨#[]⟩, .string ⟨#[]⟩, .int .i64 0, .int .i64 0]).cells k).toList.length = k * 4 := fun k => by
    rw [Array.length_toList, size_zeroCells]; rfl
  have hrz : ∀ ty, (Builtin.append_ #[22, 3] ty #[.slice (some ⟨g, 0, none⟩) i c, .int .i64 ((c : Int) + 1 - (i : Int))]).run Try.prog w = .ok (.slice (some ⟨w.heap.size, 0, none⟩) (c + 1) G) (w.drew.alloc (.cells R.toArray 50)) := fun ty => by
    have h := Lib.run_append_grow_zeros (P := Try.prog) w 22 3 ty 50 inf _ .i64 .i64 Try.underlying22 Try.underlying3 hi0 hz0 (some ⟨g, 0, none⟩) i c ((l.flatMap stv).take (i * 4)) hold (c + 1 - i) (by omega) (by omega) (by omega) (by omega) (by rw [hzb]; omega) (by rw [hzb, hik]; exact growslice_fits (by omega) (by omega))
    rw [hik, ← hG] at h
    rw [hkk]
    have e : R.toArray = ((l.flatMap stv).take (i * 4)).toArray ++ Builtin.zeroCells (Value.agg #[.string ⟨#[]⟩, .string ⟨#[]⟩, .int .i64 0, .int .i64 0]).cells (c + 1 - i) ++ Builtin.zeroCells (Value.agg #[.string ⟨#[]⟩, .string ⟨#[]⟩, .int .i64 0, .int .i64 0]).cells (G - (c + 1)) := by
      rw [hR]; simp
    rw [e]
    exact h
  have hRl : R.length = G * 4 := by
    rw [hR, List.length_append, List.length_append, hzc, hzc, List.length_take, hFl]
    omega
  obtain ⟨hB, hBl, hB1⟩ := ins_list2 R (l.flatMap stv) _ (stv x) c i hi hFl hR (by rw [List.length_append, hzc, hzc]; omega) rfl
  obtain ⟨B1, hB1e⟩ : ∃ B1, B1 = R.take (i * 4) ++ stv x ++ R.drop (i * 4 + (stv x).length) := ⟨_, rfl⟩
  rw [← hB1e] at hB hBl hB1
  have hd : ((l.flatMap stv).drop (i * 4)).length = (c - i) * 4 := by rw [List.length_drop, hFl, Nat.sub_mul]
  have hmin1 : Nat.min 1 (c + 1 - i) = 1 := Nat.min_eq_left (by omega)
  have hmin : Nat.min (c - i) (c - i) = c - i := Nat.min_self _
  obtain ⟨W1, hW1⟩ : ∃ W1, W1 = w.drew.alloc (.cells R.toArray 50) := ⟨_, rfl⟩
  have hN1 : W1.heap[w.heap.size]? = some (.cells R.toArray 50 (0, 0)) := by rw [hW1]; exact heap_alloc_new w.drew _
  have hold1 : ∀ k, k < w.heap.size → W1.heap[k]? = w.heap[k]? := fun k hk => by rw [hW1]; exact Below.heap_alloc w.drew _ k hk
  have c2 : ∀ ty dc, (Builtin.copy_ #[22, 22] ty #[.slice (some ⟨w.heap.size, i * 4, none⟩) (c + 1 - i) dc, .slice (some ⟨vb, 0, none⟩) 1 1]).run Try.prog W1 = .ok (goInt 1) (W1.setRow w.heap.size B1.toArray) := fun ty dc => by
    have := run_copy_rows (P := Try.prog) W1 22 22 ty 50 w.heap.size (i * 4) (c + 1 - i) dc ⟨vb, 0, none⟩ 1 1 4 R.toArray 50 (stv x) Try.underlying22 size50 hN1 (by rw [hmin1]; rfl) (fun j v hj => by
      rw [Go.WideShapes.add_plain, Nat.zero_add, cell_of_row _ vb j _ 50 (0, 0) ((hold1 vb hvl).trans hv)]
      rw [← Array.getElem?_toList]; exact hj) (by rw [List.size_toArray, hRl]; simp [stv]; omega) (fun v hv => stv_one [x] v (by simpa using hv))
    rw [hmin1, show R.toArray.toList = R from rfl, ← hB1e] at this
    exact this
  have hN2 : (W1.setRow w.heap.size B1.toArray).heap[w.heap.size]? = some (.cells B1.toArray 50 (0, 0)) := setRow_row W1 _ _ _ 50 (0, 0) hN1
  have c3 : ∀ ty dc sc, (Builtin.copy_ #[22, 22] ty #[.slice (some ⟨w.heap.size, (i + 1) * 4, none⟩) (c - i) dc, .slice (some ⟨g, i * 4, none⟩) (c - i) sc]).run Try.prog (W1.setRow w.heap.size B1.toArray).drew = .ok (goInt ((c - i : Nat) : Int)) ((W1.setRow w.heap.size B1.toArray).drew.setRow w.heap.size (B1.take ((i + 1) * 4) ++ (l.flatMap stv).drop (i * 4) ++ B1.drop ((i + 1) * 4 + ((l.flatMap stv).drop (i * 4)).length)).toArray) := fun ty dc sc => by
    have := run_copy_rows (P := Try.prog) (W1.setRow w.heap.size B1.toArray).drew 22 22 ty 50 w.heap.size ((i + 1) * 4) (c - i) dc ⟨g, i * 4, none⟩ (c - i) sc 4 B1.toArray 50 ((l.flatMap stv).drop (i * 4)) Try.underlying22 size50 hN2 (by rw [hmin, hd]) (fun j v hj => by
      rw [Go.WideShapes.add_plain, cell_of_row (W1.setRow w.heap.size B1.toArray).drew g (i * 4 + j) cur 50 (0, 0) (((setRow_far W1 w.heap.size g _ (by omega)).trans (hold1 g hgl)).trans hg)]
      rw [List.getElem?_drop, ← hcs, List.getElem?_take] at hj
      split at hj
      · rw [← Array.getElem?_toList]; exact hj
      · cases hj) (by rw [List.size_toArray, hB1, hRl, hd]; omega) (fun v hv => stv_one l v (List.mem_of_mem_drop hv))
    rw [hmin] at this
    exact this
  have HO : Hid (∀ w', w' = (W1.setRow w.heap.size B1.toArray).drew.setRow w.heap.size (B1.take ((i + 1) * 4) ++ (l.flatMap stv).drop (i * 4) ++ B1.drop ((i + 1) * 4 + ((l.flatMap stv).drop (i * 4)).length)).toArray → w'.ownsRow 0 50 4 (.slice (some ⟨w.heap.size, 0, none⟩) (c + 1) G) (c + 1) ((insAt l i x).flatMap stv) ∧ w.grownBy w' (some g)) := fun w' e => by
    subst e
    refine ⟨⟨?_, .inr ⟨w.heap.size, G, _, rfl, Nat.zero_le _, setRow_row _ w.heap.size _ _ 50 (0, 0) hN2, hGge, hGle, ?_, ?_⟩⟩, by rw [hW1]; rfl, by rw [hW1]; rfl, by rw [hW1]; rfl, ?_, fun k hk hkg => ?_⟩
    · rw [stv_flat_len, insAt_len l i x (by omega), hn]
    · rw [List.size_toArray, hBl, hRl]
    · rw [insAt_flat]; exact hB
    · rw [setRow_size]
      show _ ≤ (W1.setRow w.heap.size B1.toArray).heap.size
      rw [setRow_size, hW1]
      simp
    · rw [setRow_far _ _ k _ (by omega)]
      show (W1.setRow w.heap.size B1.toArray).heap[k]? = _
      rw [setRow_far _ _ k _ (by omega), hold1 k hk]
  rw [← hW1] at hrz
  have RZ : Hid _ := hrz 22
  have C2 : Hid _ := c2 3 (G - i)
  have C3 : Hid _ := c3 3 (G - (i + 1)) (c - i)
  generalize (W1.setRow w.heap.size B1.toArray) = W2 at *
  generalize hW3 : W2.drew.setRow w.heap.size (B1.take ((i + 1) * 4) ++ (l.flatMap stv).drop (i * 4) ++ B1.drop ((i + 1) * 4 + ((l.flatMap stv).drop (i * 4)).length)).toArray = W3 at *
  have hz2 : ¬ ((i : Int) = (c : Int)) := by omega
  have hz3 : (c : Int) < (c : Int) + 1 := by omega
  have hb4 : ¬ (c = i) := by omega
  have hb2 : ¬ (G = i + 1) := by omega
  have hb6 : ¬ (G = i) := by omega
  have hin : i ≤ c := by omega
  have hw1 : IntKind.i64.wrap ((i : Int) + 1) = (i : Int) + 1 := by rw [IntKind.wrap_i64]; omega
  have hw2 : IntKind.i64.wrap ((c : Int) + 1 - (i : Int)) = (c : Int) + 1 - (i : Int) := by rw [IntKind.wrap_i64]; omega
  have htn : ((i : Int) + 1).toNat = i + 1 := by omega
  have hb1 : (0 : Int) ≤ (i : Int) + 1 := by omega
  have hb3 : (i : Int) ≤ (c : Int) := by omega
  have hb5 : (i : Int) ≤ (c : Int) + 1 := by omega
  have hG9 : G ≤ 9223372036854775807 := by unfold maxLen at hGle; omega
  clear c2 c3 hrz hN1 hN2 hold1 hB hBl hB1 hB1e hR hRl hzc hd hmin hmin1 hold hFl hcs hsz hv hg hn hW3 hW1 hi0 hz0 hzs hzb hG hgl hvl hkk hik
  have r2 := C2.out
  go_enter Try.func102, Try.ntmps102
  go_wp2_with (first | ((with_reducible apply st_append (x := .tmp 34)); (case ho => rfl); (case hgd => rfl); (case hr => exact RZ.out)))
  clear r2
  have r3 := C3.out
  go_region
  clear r3
  go_wp2_with fail
  go_ret
  exact ⟨G, rfl, HO.out _ rfl⟩
set_option maxHeartbeats 2000000 in
theorem insert_end {w : World} {v : Value} {l : List Stk} {n : Nat} (hn : l.length = n) (h : w.ownsRow 0 50 4 v n (l.flatMap stv)) (x : Stk) (vb : Nat) (hc : n ≤ 100000)
    (hv : w.heap[vb]? = some (.cells #[.string x.sku, .string x.loc, .int .i64 x.on, .int .i64 x.held] 50 (0, 0))) :
    Calls Try.prog 102 #[v, .int .i64 (n : Int), .slice (some ⟨vb, 0, none⟩) 1 1] w fun e w' =>
      ∃ g cap, e = .returned (.slice (some ⟨g, 0, none⟩) (n + 1) cap) ∧ w'.ownsRow 0 50 4 (.slice (some ⟨g, 0, none⟩) (n + 1) cap) (n + 1) ((l ++ [x]).flatMap stv) ∧ w.grownBy w' v.ownBlock ∧ (v.ownBlock = some g ∨ g = w.heap.size) := by
  obtain ⟨inf, hi0, hz0, hzs, hzb⟩ := info_of info50
  obtain ⟨g, cap, w', a1, a2, a3, a4, a5⟩ := run_append_lies (P := Try.prog) w 22 22 0 50 inf _ 4 48 Try.underlying22 hi0 hz0 hzs hzb (by simp [Value.cells]) (by omega) v n (l.flatMap stv) h ⟨vb, 0, none⟩ 1 1 (stv x) rfl (fun j u hu => by
    rw [Go.WideShapes.add_plain, Nat.zero_add, cell_of_row w vb j _ 50 (0, 0) hv, ← Array.getElem?_toList]; exact hu) (fun u hu => stv_one [x] u (by simpa using hu)) (by omega) (by unfold maxLen; omega) (by omega) (Nat.zero_le _) w.heap.size rfl
  have e : (l ++ [x]).flatMap stv = l.flatMap stv ++ stv x := by rw [List.flatMap_append]; simp
  have HO : Hid (w'.ownsRow 0 50 4 (.slice (some ⟨g, 0, none⟩) (n + 1) cap) (n + 1) ((l ++ [x]).flatMap stv) ∧ w.grownBy w' v.ownBlock ∧ (v.ownBlock = some g ∨ g = w.heap.size)) := ⟨by rw [e]; exact a2, a3, a4⟩
  have RA : Hid _ := a1
  have hw1 : ¬ ((n : Int) + 1 = 0) := by omega
  rcases h.2 with ⟨rfl, rfl⟩ | ⟨b, c, cur, rfl, _, hb, hcap, hmax, hsz, htk⟩
  · clear a1 a2 a3 a4 a5 e h hv hi0 hz0 hzs hzb hn
    go_enter Try.func102, Try.ntmps102
    go_wp2_with (first | ((with_reducible apply st_append (x := .tmp 23)); (case ho => rfl); (case hgd => rfl); (case hr => exact RA.out)))
    go_ret
    exact ⟨g, cap, rfl, HO.out⟩
  · have hc9 : c ≤ 9223372036854775807 := by unfold maxLen at hmax; omega
    clear a1 a2 a3 a4 a5 e h hv hi0 hz0 hzs hzb hn hsz htk hb
    by_cases hcn : c = n
    · subst hcn
      go_enter Try.func102, Try.ntmps102
      go_wp2_with (first | ((with_reducible apply st_append (x := .tmp 23)); (case ho => rfl); (case hgd => rfl); (case hr => exact RA.out)))
      go_ret
      exact ⟨g, cap, rfl, HO.out⟩
    · go_enter Try.func102, Try.ntmps102
      go_wp2_with (first | ((with_reducible apply st_append (x := .tmp 23)); (case ho => rfl); (case hgd => rfl); (case hr => exact RA.out)))
      go_ret
      exact ⟨g, cap, rfl, HO.out⟩
/-- slices.Insert of one stock. -/
theorem insert_is {w : World} {v : Value} {l : List Stk} {n : Nat} (hn : l.length = n) (h : w.ownsRow 0 50 4 v n (l.flatMap stv)) (i : Nat) (hi : i ≤ n) (x : Stk) (vb : Nat) (hc : n ≤ 100000)
    (hv : w.heap[vb]? = some (.cells #[.string x.sku, .string x.loc, .int .i64 x.on, .int .i64 x.held] 50 (0, 0))) (hne : v.ownBlock ≠ some vb) :
    Calls Try.prog 102 #[v, .int .i64 (i : Int), .slice (some ⟨vb, 0, none⟩) 1 1] w fun e w' =>
      ∃ g cap, e = .returned (.slice (some ⟨g, 0, none⟩) (n + 1) cap) ∧ w'.ownsRow 0 50 4 (.slice (some ⟨g, 0, none⟩) (n + 1) cap) (n + 1) ((insAt l i x).flatMap stv) ∧ w.grownBy w' v.ownBlock ∧ (v.ownBlock = some g ∨ g = w.heap.size) := by
  by_cases hin : i = n
  · subst hin
    have e : insAt l i x = l ++ [x] := by
      unfold insAt
      rw [List.take_of_length_le (by omega), List.drop_of_length_le (by omega)]
    rw [e]
    exact insert_end hn h x vb hc hv
  · rcases h.2 with ⟨rfl, rfl⟩ | ⟨b, c, cur, rfl, _, hb, hcap, hmax, hsz, htk⟩
    · omega
    · have hne' : vb ≠ b := fun e => hne (by rw [e]; rfl)
      by_cases hroom : n + 1 ≤ c
      · exact (insert_room b n c i vb cur l x w hn (by omega) hroom (by unfold maxLen at hmax; omega) hb hsz htk hv hne').mono fun e w' ⟨q1, q2, q3⟩ => ⟨b, c, q1, q2, q3, .inl rfl⟩
      · exact (insert_grow b n c i vb cur l x w hn (by omega) hcap (by omega) hc hb hsz htk hv).mono fun e w' ⟨cap, q1, q2, q3⟩ => ⟨_, cap, q1, q2, q3, .inr rfl⟩
end Go.Proofs.Ytflbcheofmljeaa
