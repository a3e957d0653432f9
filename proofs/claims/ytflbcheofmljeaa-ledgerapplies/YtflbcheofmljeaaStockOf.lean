/- ledger.stockOf: a stock where it stands, or comes to stand. -/
import Derived.Test.YtflbcheofmljeaaLo
namespace Go.Proofs.Ytflbcheofmljeaa
open Go.ChangeShapes Go.WideShapes Go.RowKit
set_option linter.unusedVariables false
set_option maxRecDepth 100000

/-- Stocks with one in its place. -/
def ens (l : List Stk) (sku loc : ByteArray) : List Stk := if hasK l sku loc then l else insAt l (posK l sku loc) ⟨sku, loc, 0, 0⟩
theorem ens_at {l : List Stk} (hs : Rises l) (sku loc : ByteArray) : ∃ h : posK l sku loc < (ens l sku loc).length, (ens l sku loc)[posK l sku loc] = findK l sku loc := by
  unfold ens
  cases hk : hasK l sku loc with
  | true =>
    obtain ⟨hp, e⟩ := findK_yes hs hk
    exact ⟨hp, e.symm⟩
  | false =>
    have hle := posK_le l sku loc
    refine ⟨by rw [if_neg (by simp), insAt_len _ _ _ hle]; omega, ?_⟩
    rw [findK_no hk]
    simp only [Bool.false_eq_true, if_false]
    unfold insAt
    rw [List.getElem_append_right (by rw [List.length_take]; omega)]
    simp [List.length_take, Nat.min_eq_left hle]
theorem ens_len (l : List Stk) (sku loc : ByteArray) : (ens l sku loc).length = l.length + (if hasK l sku loc then 0 else 1) := by
  unfold ens
  cases hk : hasK l sku loc with
  | true => rfl
  | false =>
    have := insAt_len l (posK l sku loc) ⟨sku, loc, 0, 0⟩ (posK_le l sku loc)
    simpa using this
set_option maxHeartbeats 2000000 in
theorem stockOf_is {w : World} {E : Nat → Prop} {b : Nat} {v0 v1 v2 : Value} {L : Led} (h : LedO w E b v0 v1 v2 L) (hs : Rises L.S) (hm : L.S.length ≤ 100000) (sku loc : ByteArray) :
    Calls Try.prog 90 #[.pointer (some ⟨b, 0, none⟩), .string sku, .string loc] w fun e w' => ∃ g m cap, e = .returned (.pointer (some ⟨g, posK L.S sku loc * 4, none⟩)) ∧ LedO w' E b (.slice (some ⟨g, 0, none⟩) m cap) v1 v2 { L with S := ens L.S sku loc } ∧ Stay E w w' := by
  obtain ⟨a0, c0, rfl, hr⟩ := own_rowS h.S
  obtain ⟨n, hn⟩ : ∃ n, L.S.length = n := ⟨_, rfl⟩
  have c0c : w.cell? ⟨b, 0, none⟩ = some (.slice a0 L.S.length c0) := h.c.cs 0 _ rfl
  rw [hn] at c0c h hm
  have HF : Hid _ := finder_is (.slice a0 n c0) a0 n c0 rfl w
  obtain ⟨W, hW⟩ : ∃ W, w.alloc (.cells #[.slice a0 n c0] 22) = W := ⟨_, rfl⟩
  rw [hW] at HF
  have hBW : Below w.heap.size w W := hW ▸ below1 _ _
  have hcW : CellsF W w.heap.size [.slice a0 n c0] := by rw [← hW]; exact CellsF.at _ 22 (by simp) rfl
  have HG : Hid _ := found_is a0 c0 n L.S hn hs (by omega) sku loc w.heap.size W (hcW.cs 0 _ rfl) (hr.next stv_ne hBW)
  have HLW : Hid (LedO W E b (.slice a0 n c0) v1 v2 L ∧ Stay E w W) := ⟨h.next hBW, stay_of_below hBW h.lt⟩
  have HLT : Hid (∀ k, E k → k < w.heap.size) := h.lt
  have hat := ens_at hs sku loc
  have hle := posK_le L.S sku loc
  cases hk : hasK L.S sku loc with
  | true =>
    rw [hk] at HG
    have hens : ens L.S sku loc = L.S := by unfold ens; rw [hk]; rfl
    obtain ⟨hp, _⟩ := findK_yes hs hk
    obtain ⟨g, o, rfl, hb, hc⟩ := hr.stk (fun e => by rw [e] at hp; simp at hp)
    have ho : o = 0 := by
      rcases h.S.2 with ⟨e, _⟩ | ⟨g', cap', cur, e, _⟩
      · cases e
      · cases e; rfl
    subst ho
    rw [hn] at hp
    have HE : Hid (ens L.S sku loc = L.S) := hens
    generalize posK L.S sku loc = k at *
    clear hat hle hens hk hr hcW hBW h hc hb hs
    go_enter Try.func90, Try.ntmps90
    go_wp2_with fail
    refine Calls.mono HF.out ?_; rintro e w1 ⟨rfl, rfl⟩
    go_wp2_with fail
    refine Calls.mono HG.out ?_; rintro e w2 ⟨rfl, k2⟩
    have HL2 : Hid (LedO w2 E b (.slice (some ⟨g, 0, none⟩) n c0) v1 v2 L ∧ Stay E w w2) := ⟨HLW.out.1.next k2, HLW.out.2.below k2 HLT.out⟩
    have c2 := HL2.out.1.c.cs 0 _ rfl
    clear k2
    go_wp2_with fail
    go_ret
    exact ⟨g, n, c0, rfl, by rw [HE.out]; exact HL2.out.1, HL2.out.2⟩
  | false =>
    rw [hk] at HG
    have hens : ens L.S sku loc = insAt L.S (posK L.S sku loc) ⟨sku, loc, 0, 0⟩ := by unfold ens; rw [hk]; rfl
    have HE : Hid _ := hens
    have HH : Hid (L.S.length = n) := hn
    rw [hn] at hle
    have hlen : (insAt L.S (posK L.S sku loc) ⟨sku, loc, 0, 0⟩).length = n + 1 := by rw [insAt_len _ _ _ (by omega), hn]
    have HLEN : Hid _ := hlen
    obtain ⟨k, hkk⟩ : ∃ k, posK L.S sku loc = k := ⟨_, rfl⟩
    rw [hkk] at HG HE HLEN hle ⊢
    have hkn : (k : Int) < (n : Int) + 1 := by omega
    have hkn2 : k < n + 1 := by omega
    clear hat hens hk hcW hBW h hs hlen hkk
    go_enter Try.func90, Try.ntmps90
    go_wp2_with fail
    refine Calls.mono HF.out ?_; rintro e w1 ⟨rfl, rfl⟩
    go_wp2_with fail
    refine Calls.mono HG.out ?_; rintro e w2 ⟨rfl, k2⟩
    have HL2 : Hid (LedO w2 E b (.slice a0 n c0) v1 v2 L ∧ Stay E w w2) := ⟨HLW.out.1.next k2, HLW.out.2.below k2 HLT.out⟩
    have c2 := HL2.out.1.c.cs 0 _ rfl
    have hlt2 : ∀ q, E q → q < w2.heap.size := HL2.out.1.lt
    obtain ⟨W3, hW3⟩ : ∃ W3, w2.alloc (.cells #[.string sku, .string loc, .int .i64 0, .int .i64 0] 50) = W3 := ⟨_, rfl⟩
    have hB3 : Below w2.heap.size w2 W3 := hW3 ▸ below1 _ _
    have HL3 : Hid (LedO W3 E b (.slice a0 n c0) v1 v2 L ∧ Stay E w W3) := ⟨HL2.out.1.next hB3, HL2.out.2.below hB3 HLT.out⟩
    have hv3 : W3.heap[w2.heap.size]? = some (.cells #[.string sku, .string loc, .int .i64 0, .int .i64 0] 50 (0, 0)) := by rw [← hW3]; exact heap_alloc_new w2 _
    have HI : Hid _ := insert_is HH.out (show W3.ownsRow 0 50 4 (.slice a0 n c0) n (L.S.flatMap stv) from HH.out ▸ HL3.out.1.S) k (by omega) ⟨sku, loc, 0, 0⟩ w2.heap.size hm hv3 (fun e => by have := (World.ownsRow.lt HL2.out.1.S _ e).2; omega)
    clear k2 hv3 hB3 hlt2
    go_wp2_with fail
    try rw [hW3]
    refine Calls.mono HI.out ?_; rintro e w4 ⟨g, cap, rfl, q1, q2, q3⟩
    obtain ⟨r1, r2, r3, r4⟩ := LedO.newS HL3.out.1 (insAt L.S k ⟨sku, loc, 0, 0⟩) g (n + 1) cap HLEN.out q1 q2 (q3.imp id (fun e => by omega))
    have HR : Hid _ := And.intro r1 (HL3.out.2.trans r2)
    obtain ⟨u, hu⟩ : ∃ u, w4.cell? ⟨b, 0, none⟩ = some u := Option.isSome_iff_exists.1 r3
    have c5 : (w4.setCell ⟨b, 0, none⟩ (.slice (some ⟨g, 0, none⟩) (n + 1) cap)).cell? ⟨b, 0, none⟩ = some (.slice (some ⟨g, 0, none⟩) (n + 1) cap) := r1.c.cs 0 _ rfl
    clear q1 q2 q3 r1 r2 r3
    go_wp2_with fail
    go_ret
    exact ⟨g, n + 1, cap, rfl, by rw [HE.out]; exact HR.out.1, HR.out.2⟩
end Go.Proofs.Ytflbcheofmljeaa
