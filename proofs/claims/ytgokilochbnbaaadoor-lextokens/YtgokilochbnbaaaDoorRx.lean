/- One token, by the document, whatever it is. -/
import Derived.Test.YtgokilochbnbaaaDoorRq2
namespace Go.Proofs.YtgokilochbnbaaaDoor
open Go.ChangeShapes Go.WideShapes Go.ChangeAt Go.RowKit
set_option linter.unusedVariables false
set_option maxRecDepth 100000

theorem one_z {a : Nat} {X : TK} (h : X.z ≠ 0) {e : Ending} (he : e = .returned (.tuple #[tv X.k ⟨X.t.toArray⟩ X.n (a : Int), .int .i64 ((a + X.z : Nat) : Int)])) : OneR a X e := .inl ⟨h, he⟩
theorem one_ref (s : ByteArray) (a : Nat) (ha : a < s.size) (hs : s.size ≤ 100000) (hr : Lib.hasPrefix (s.data.toList.drop a) [47, 42] = false) (w : World) :
    Calls Tryd.prog 22 #[.string s, .int .i64 (a : Int)] w fun e w' => OneR a (firstV (s.data.toList.drop a)) e ∧ Below w.heap.size w w' := by
  have hd := drop_at s a ha
  have hh : (s.data.toList.drop a).headD 0 = s[a] := by rw [hd]; rfl
  have hL := fun w => letter_ref s[a] true w
  have e1 : letB s[a] true = ltB s[a] := by unfold letB; simp
  rw [e1] at hL
  have q34 : ((s[a].toNat : Int) == 34) = decide (s[a] = 34) := by
    rw [beq_eq, decide_eq_decide]
    constructor
    · intro e; exact UInt8.toNat_inj.1 (by simpa using Int.ofNat_inj.1 e)
    · intro e; rw [e]; rfl
  have q39 : ((s[a].toNat : Int) == 39) = decide (s[a] = 39) := by
    rw [beq_eq, decide_eq_decide]
    constructor
    · intro e; exact UInt8.toNat_inj.1 (by simpa using Int.ofNat_inj.1 e)
    · intro e; rw [e]; rfl
  have hext : ∀ p : UInt8 → Bool, s.extract a (a + ((s.data.toList.drop a).takeWhile p).length) = ⟨((s.data.toList.drop a).takeWhile p).toArray⟩ := fun p => ba_ext (by
    rw [ext_list, List.drop_take, Nat.add_sub_cancel_left, take_tw])
  have htl : ∀ p : UInt8 → Bool, a + ((s.data.toList.drop a).takeWhile p).length ≤ s.size := fun p => by
    have := (List.takeWhile_prefix (l := s.data.toList.drop a) p).length_le
    rw [List.length_drop, len_of] at this
    omega
  have hrest : (s.data.toList.drop a).drop 1 = s.data.toList.drop (a + 1) := by rw [List.drop_drop]
  unfold firstV
  rw [hh]
  cases hf : ltB s[a]
  · rw [hf] at hL
    simp only [Bool.false_eq_true, if_false]
    by_cases c34 : s[a] = 34
    · rw [if_pos c34]
      have h34 : ((s[a].toNat : Int) == 34) = true := by rw [q34, decide_eq_true c34]
      have hQ := fun w => quoted_ref s hs a ha 34 c34 w
      unfold nameV
      rw [hrest]
      unfold quoV at hQ
      cases hq : quo 34 (s.data.toList.drop (a + 1)) with
      | none =>
        rw [hq] at hQ
        exact (one_qnone s a ha hs hL h34 ⟨#[]⟩ (-1) hQ w).mono (fun e w' k => ⟨.inr ⟨rfl, _, _, _, _, k.1⟩, k.2⟩)
      | some x =>
        obtain ⟨t, m⟩ := x
        rw [hq] at hQ
        simp only
        by_cases ct : t = []
        · subst ct
          rw [if_pos (.inl rfl)]
          exact (one_qnone s a ha hs hL h34 ⟨#[]⟩ _ hQ w).mono (fun e w' k => ⟨.inr ⟨rfl, _, _, _, _, k.1⟩, k.2⟩)
        · have h1 : ¬ (⟨t.toArray⟩ : ByteArray).toList = [] := by rw [toList_ba]; exact ct
          have h0 : (⟨t.toArray⟩ : ByteArray).toList.isEmpty = false := by rw [toList_ba]; simpa using ct
          by_cases cl : 64 < t.length
          · rw [if_pos (.inr cl)]
            exact (one_qlong s a ha hs hL h34 ⟨t.toArray⟩ _ hQ (by rw [size_ba]; omega) w).mono (fun e w' k => ⟨.inr ⟨rfl, _, _, _, _, k.1⟩, k.2⟩)
          · rw [if_neg (fun e => e.elim ct cl)]
            refine (one_qname s a ha hs hL h34 ⟨t.toArray⟩ _ hQ (by rw [size_ba]; omega) h0 h1 w).mono (fun e w' k => ⟨one_z (by simp) ?_, k.2⟩)
            rw [k.1]
            show Ending.returned (.tuple #[_, .int .i64 ((a + 1 + m : Nat) : Int)]) = .returned (.tuple #[_, .int .i64 ((a + (m + 1) : Nat) : Int)])
            rw [show a + 1 + m = a + (m + 1) by omega]
    · rw [if_neg c34]
      have h34 : ((s[a].toNat : Int) == 34) = false := by rw [q34, decide_eq_false c34]
      have hdg : dgB s[a] = decide ((48 : Int) ≤ (s[a].toNat : Int) ∧ (s[a].toNat : Int) ≤ 57) := by unfold dgB; rw [decide_eq_decide]; omega
      by_cases c39 : s[a] = 39
      · have h39 : ((s[a].toNat : Int) == 39) = true := by rw [q39, decide_eq_true c39]
        have hnd : dgB s[a] = false := by rw [c39]; rfl
        rw [hnd]
        simp only [Bool.false_eq_true, if_false]
        rw [if_pos c39]
        have hQ := fun w => quoted_ref s hs a ha 39 c39 w
        unfold textV
        rw [hrest]
        unfold quoV at hQ
        cases hq : quo 39 (s.data.toList.drop (a + 1)) with
        | none =>
          rw [hq] at hQ
          exact (one_tempty s a ha hs hL h34 h39 ⟨#[]⟩ (-1) hQ w).mono (fun e w' k => ⟨.inr ⟨rfl, _, _, _, _, k.1⟩, k.2⟩)
        | some x =>
          obtain ⟨t, m⟩ := x
          rw [hq] at hQ
          simp only
          have hfin : ∀ V : Value, Ending.returned (.tuple #[V, .int .i64 ((a + 1 + m : Nat) : Int)]) = .returned (.tuple #[V, .int .i64 ((a + (m + 1) : Nat) : Int)]) := fun V => by rw [show a + 1 + m = a + (m + 1) by omega]
          by_cases cl : 64 < t.length
          · rw [if_pos cl]
            exact (one_tlong s a ha hs hL h34 h39 ⟨t.toArray⟩ _ hQ (by rw [size_ba]; omega) w).mono (fun e w' k => ⟨.inr ⟨rfl, _, _, _, _, k.1⟩, k.2⟩)
          · rw [if_neg cl]
            by_cases ct : t = []
            · subst ct
              exact (one_tempty s a ha hs hL h34 h39 ⟨#[]⟩ _ hQ w).mono (fun e w' k => ⟨one_z (by simp) (k.1.trans (hfin _)), k.2⟩)
            · have h1 : ¬ (⟨t.toArray⟩ : ByteArray).toList = [] := by rw [toList_ba]; exact ct
              have h0 : (⟨t.toArray⟩ : ByteArray).toList.isEmpty = false := by rw [toList_ba]; simpa using ct
              exact (one_ttext s a ha hs hL h34 h39 ⟨t.toArray⟩ _ hQ (by rw [size_ba]; omega) h0 h1 w).mono (fun e w' k => ⟨one_z (by simp) (k.1.trans (hfin _)), k.2⟩)
      · have h39 : ((s[a].toNat : Int) == 39) = false := by rw [q39, decide_eq_false c39]
        by_cases cd : dgB s[a] = true
        · rw [if_pos cd]
          have cd2 := cd
          rw [hdg, decide_eq_true_eq] at cd2
          have hW := fun w => word_ref_true s hs a (by omega) w
          have hE := htl dgB
          have hA := hext dgB
          unfold digV
          have hz : ((s.data.toList.drop a).takeWhile dgB).length ≠ 0 := by
            rw [hd, List.takeWhile_cons_of_pos cd]; simp
          generalize (s.data.toList.drop a).takeWhile dgB = l at *
          have hD : ∀ w, Calls Tryd.prog 49 #[.string ⟨l.toArray⟩] w fun e w' => e = .returned (.tuple #[.int .i64 (Num.rdV l), .int .i64 (Num.rdE l)]) ∧ Below w.heap.size w w' := fun w => Num.refRead_any ⟨l.toArray⟩ (by rw [size_ba]; omega) w
          by_cases ce : Num.rdE l = 0
          · rw [if_pos ce]
            rw [ce] at hD
            exact (one_dok s a ha hs hL h34 h39 cd2.1 cd2.2 (a + l.length) ⟨by omega, hE⟩ _ hA (Num.rdV l) 0 hW hD w).mono (fun e w' k => ⟨one_z hz k.1, k.2⟩)
          · rw [if_neg ce]
            exact (one_dbad s a ha hs hL h34 h39 cd2.1 cd2.2 (a + l.length) ⟨by omega, hE⟩ _ hA (Num.rdV l) (Num.rdE l) (by simpa using ce) hW hD w).mono (fun e w' k => ⟨.inr ⟨rfl, _, _, _, _, k.1⟩, k.2⟩)
        · rw [if_neg cd, if_neg c39]
          exact one_sign s a ha hs hr hL h34 h39 (fun q => cd (by rw [hdg, decide_eq_true q])) w
  · rw [hf] at hL
    simp only [if_true]
    have hW := fun w => word_ref_false s hs a (by omega) w
    have hE := htl wdB
    have hA := hext wdB
    have hz : ((s.data.toList.drop a).takeWhile wdB).length ≠ 0 := by
      rw [hd, List.takeWhile_cons_of_pos (by unfold wdB; rw [hf]; rfl)]; simp
    unfold wordV
    generalize (s.data.toList.drop a).takeWhile wdB = l at *
    by_cases cl : 64 < l.length
    · rw [if_pos cl]
      exact (one_long s a ha hs hL (a + l.length) ⟨by omega, hE⟩ hW (by omega) w).mono (fun e w' k => ⟨.inr ⟨rfl, _, _, _, _, k.1⟩, k.2⟩)
    · rw [if_neg cl]
      have hC := fun w => capital_ref ⟨l.toArray⟩ (by rw [size_ba]; omega) w
      have hK := fun w => key_ref ⟨(up l).toArray⟩ w
      cases hk : keyB (up l)
      · have hK2 : ∀ w, Calls Tryd.prog 15 #[.string ⟨(up l).toArray⟩] w fun e w' => e = .returned (.bool false) ∧ Below w.heap.size w w' := fun w => hk ▸ hK w
        exact (one_name s a ha hs hL (a + l.length) ⟨by omega, hE⟩ _ _ hA hW (by omega) hC hK2 w).mono (fun e w' k => ⟨one_z hz k.1, k.2⟩)
      · have hK2 : ∀ w, Calls Tryd.prog 15 #[.string ⟨(up l).toArray⟩] w fun e w' => e = .returned (.bool true) ∧ Below w.heap.size w w' := fun w => hk ▸ hK w
        exact (one_key s a ha hs hL (a + l.length) ⟨by omega, hE⟩ _ _ hA hW (by omega) hC hK2 w).mono (fun e w' k => ⟨one_z hz (by rw [k.1]; simp), k.2⟩)
end Go.Proofs.YtgokilochbnbaaaDoor
