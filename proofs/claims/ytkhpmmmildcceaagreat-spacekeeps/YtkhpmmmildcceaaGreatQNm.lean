/- Names: a map from texts to pages. A range over names. Cells of a map: pure. -/
import Derived.Test.YtkhpmmmildcceaaGreatQNn
import Derived.Maps.OwnSet
import Derived.Maps.OwnOps
import Derived.Maps.RangeWalk
import Derived.Maps.Ext
import Derived.Test.YtkhpmmmildcceaaGreatQSp
namespace Go.Proofs.YtkhpmmmildcceaaGreat
open Go.ChangeShapes Go.WideShapes Go.ChangeAt Go.RowKit
set_option linter.unusedVariables false
set_option maxRecDepth 100000

open Go.Maps (Keyed)
theorem less_is : ∀ a b : List UInt8, bytesBefore a b = Op.bytesLess a b
  | [], [] => rfl
  | [], _ :: _ => rfl
  | _ :: _, [] => rfl
  | a :: r, b :: s => by unfold bytesBefore Op.bytesLess; rw [less_is r s]
theorem Tryz.underlying66 : Tryz.prog.underlying 66 = some (.map 9 3) := by kernel_rfl
theorem Tryz.u9 : Tryz.prog.underlying 9 = some .string := by kernel_rfl
theorem Tryz.u3 : Tryz.prog.underlying 3 = some (.int .i64) := by kernel_rfl
theorem law9 : Keyed Tryz.prog 9 := Maps.string_keyed Tryz.u9
theorem zero3 (w : World) : (zeroValue 3).run Tryz.prog w = .ok (.int .i64 0) w := by kernel_rfl
abbrev Nam := List UInt8 × Nat
def nD (x : Nam) : Lit × DataW Unit := (.string x.1, .lit (.int .i64 (x.2 : Int)))
/-- Names, as a map's datum. -/
def dN (ns : List Nam) : DataW Unit := .map (ns.map nD)
def insN (x : Nam) : List Nam → List Nam
  | [] => [x]
  | y :: r => if Op.bytesLess x.1 y.1 then x :: y :: r else y :: insN x r
def delN (ns : List Nam) (s : List UInt8) : List Nam := ns.filter (fun x => !(x.1 == s))
def putN (ns : List Nam) (s : List UInt8) (n : Nat) : List Nam := insN (s, n) (delN ns s)
def getN (ns : List Nam) (s : List UInt8) : Option Nat := (ns.find? (fun x => x.1 == s)).map (·.2)
theorem same_str (a b : List UInt8) : (Lit.string a).sameKey (Lit.string b) = (a == b) := rfl
theorem dN_del (ns : List Nam) (s : List UInt8) : (dN ns).del (.string s) = dN (delN ns s) := by
  unfold dN delN DataW.del
  simp only [List.filter_map]
  rfl
theorem ins_map (x : Nam) : ∀ l : List Nam, DataW.insert (nD x) (l.map nD) = (insN x l).map nD
  | [] => rfl
  | y :: r => by
    have e : (nD x).1.before (nD y).1 = Op.bytesLess x.1 y.1 := less_is _ _
    show (if (nD x).1.before (nD y).1 then nD x :: nD y :: r.map nD else nD y :: DataW.insert (nD x) (r.map nD)) = (if Op.bytesLess x.1 y.1 then x :: y :: r else y :: insN x r).map nD
    rw [e, ins_map x r]
    split <;> rfl
theorem dN_put (ns : List Nam) (s : List UInt8) (n : Nat) : (dN ns).put (.string s) (.lit (.int .i64 (n : Int))) = dN (putN ns s n) := by
  have e : (dN ns).put (.string s) (.lit (.int .i64 (n : Int))) = .map (DataW.insert (nD (s, n)) ((delN ns s).map nD)) := by
    unfold dN delN DataW.put
    simp only [List.filter_map]
    rfl
  rw [e, ins_map]
  rfl
theorem find_map (s : List UInt8) : ∀ ns : List Nam, (ns.map nD).find? (fun p => p.1.sameKey (.string s)) = (ns.find? (fun x => x.1 == s)).map nD
  | [] => rfl
  | x :: r => by
    have e : (nD x).1.sameKey (.string s) = (x.1 == s) := rfl
    rw [List.map_cons, List.find?_cons, List.find?_cons, e, find_map s r]
    cases x.1 == s <;> rfl
theorem dN_at (ns : List Nam) (s : List UInt8) (z : Nat) : (dN ns).atKey (.string s) (.lit (.int .i64 (z : Int))) = .lit (.int .i64 (((getN ns s).getD z : Nat) : Int)) := by
  unfold dN DataW.atKey getN
  simp only [find_map]
  cases ns.find? (fun x => x.1 == s) <;> rfl
theorem dN_has (ns : List Nam) (s : List UInt8) : Maps.has (dN ns) (.string s) = (getN ns s).isSome := by
  unfold dN getN
  rw [Maps.has_eq, List.any_map, Option.isSome_map]
  rw [Bool.eq_iff_iff, List.any_eq_true, List.find?_isSome]
  exact Iff.rfl
theorem dN_size (ns : List Nam) : Maps.size (dN ns) = ns.length := by unfold dN; rw [Maps.size_eq, List.length_map]
/-- Names in a map of memory. -/
def NmAt (w : World) (b : Nat) (ns : List Nam) : Prop := w.ownsMap Tryz.prog 9 (plainElem (H := Unit) Tryz.prog 3) b ns.length (dN ns)
def risN (ns : List Nam) : Prop := ns.Pairwise (fun a b => Op.bytesLess a.1 b.1 = true)
theorem tight {w : World} {b n : Nat} {D : DataW Unit} (h : w.ownsMap Tryz.prog 9 (plainElem (H := Unit) Tryz.prog 3) b n D) : w.ownsMap Tryz.prog 9 (plainElem (H := Unit) Tryz.prog 3) b (Maps.size D) D := by
  obtain ⟨es, clock, hb, F, hs, rfl⟩ := h
  exact ⟨es, clock, hb, F, by simp [Maps.size, length_sorted], rfl⟩
theorem NmAt.of {w : World} {b n : Nat} {ns : List Nam} (h : w.ownsMap Tryz.prog 9 (plainElem (H := Unit) Tryz.prog 3) b n (dN ns)) : NmAt w b ns := by
  have := tight h
  rw [dN_size] at this
  exact this
theorem NmAt.ris {w : World} {b : Nat} {ns : List Nam} (h : NmAt w b ns) : risN ns := by
  obtain ⟨es, e, hp, _⟩ := World.ownsMap.canon h law9
  have e2 : es = ns.map nD := by
    have := e
    unfold dN at this
    injection this with q
    exact q.symm
  rw [e2, List.pairwise_map] at hp
  exact hp.imp (fun {a b} q => by
    have : bytesBefore a.1 b.1 = true := q
    rwa [less_is] at this)
theorem NmAt.lt {w : World} {b : Nat} {ns : List Nam} (h : NmAt w b ns) : b < w.heap.size := World.ownsMap.lt h
theorem NmAt.new (w : World) : NmAt (w.alloc (.map #[] 0)) w.heap.size [] := World.ownsMap_made w Tryz.prog 9 _
theorem NmAt.far {w w' : World} {b : Nat} {ns : List Nam} (h : NmAt w b ns) (e : w'.heap[b]? = w.heap[b]?) : NmAt w' b ns := by
  obtain ⟨es, clock, hb, r⟩ := h
  exact ⟨es, clock, e.trans hb, r⟩
theorem NmAt.kept {F : Nat → Prop} {w w' : World} {b : Nat} {ns : List Nam} (h : NmAt w b ns) (k : Kept F w w') (hn : ¬ F b) : NmAt w' b ns := h.far (k.block b h.lt hn)
theorem maxLen_is : maxLen = 9223372036854775807 ∨ 1000000 ≤ maxLen := Or.inr (by unfold maxLen; omega)
theorem key_str (s : ByteArray) (h : s.size ≤ 1000) : keyOf Tryz.prog 9 (.string s) = some (.string s.data.toList) := WideMaps.keyOf_string_mk Tryz.u9 (by unfold maxLen; omega)
theorem elem_nat (n : Nat) (h : n ≤ 1000000) : plainElem (H := Unit) Tryz.prog 3 (.int .i64 (n : Int)) = some (.lit (.int .i64 (n : Int)), []) := plainElem_int Tryz.u3 (WalkArith.wf_i64 (by omega))
theorem NmAt.look {w : World} {b : Nat} {ns : List Nam} (h : NmAt w b ns) (s : ByteArray) (hs : s.size ≤ 1000) : (Instr.lookup 66 (.map (some b)) (.string s) true).run Tryz.prog w = .ok (.tuple #[.int .i64 (((getN ns s.data.toList).getD 0 : Nat) : Int), .bool (getN ns s.data.toList).isSome]) w := by
  obtain ⟨v, ps, hrun, hv⟩ := World.ownsMap.look_ok h law9 Tryz.underlying66 (zero3 w) (elem_nat 0 (by omega)) (key_str s hs)
  obtain ⟨c, rfl, hc, _⟩ := plainElem_int_inv Tryz.u3 hv
  have e := congrArg Prod.fst hc
  have e2 := dN_at ns s.data.toList 0
  rw [show (dN ns).atKey (.string s.data.toList) (.lit (.int .i64 ((0 : Nat) : Int))) = _ from e] at e2
  injection e2 with e3
  injection e3 with _ e4
  rw [hrun, dN_has, e4]
theorem NmAt.len {w : World} {b : Nat} {ns : List Nam} (h : NmAt w b ns) (ty : TypeId) : (Builtin.len_ #[66] ty #[.map (some b)]).run Tryz.prog w = .ok (.int .i64 (ns.length : Int)) w := by
  have := World.ownsMap.len h Tryz.underlying66 ty
  rw [dN_size] at this
  exact this
theorem turned_kept {w w' : World} {b : Nat} (h : w.mapTurned w' b) : Kept (fun i => i = b) w w' := by
  have g := h.grown
  exact ⟨g.os, g.tape, g.output, g.size, fun k hk hn => g.block k hk (fun e => hn (by injection e))⟩
theorem NmAt.put {w : World} {b : Nat} {ns : List Nam} (h : NmAt w b ns) (hl : ns.length ≤ 1000) (s : ByteArray) (hs : s.size ≤ 1000) (n : Nat) (hn : n ≤ 1000000) : ∃ w', (Instr.mapUpdate 66 (.map (some b)) (.string s) (.int .i64 (n : Int))).run Tryz.prog w = .ok () w' ∧ NmAt w' b (putN ns s.data.toList n) ∧ Kept (fun i => i = b) w w' ∧ w'.heap.size = w.heap.size := by
  obtain ⟨w', hrun, ho, ht⟩ := World.ownsMap.store h law9 Tryz.underlying66 (by unfold maxLen; omega) (key_str s hs) (elem_nat n hn)
  rw [dN_put] at ho
  refine ⟨w', hrun, NmAt.of ho, turned_kept ht, ?_⟩
  obtain ⟨es, clock, es', clock', hb, rfl⟩ := ht
  simp [ChangeMaps.setBlock]
theorem NmAt.drop {w : World} {b : Nat} {ns : List Nam} (h : NmAt w b ns) (s : ByteArray) (hs : s.size ≤ 1000) (ty : TypeId) : ∃ w', (Builtin.delete_ #[66, 9] ty #[.map (some b), .string s]).run Tryz.prog w = .ok (.tuple #[]) w' ∧ NmAt w' b (delN ns s.data.toList) ∧ Kept (fun i => i = b) w w' := by
  obtain ⟨w', hrun, ho, ht⟩ := World.ownsMap.drop h law9 Tryz.underlying66 (key_str s hs) ty
  rw [dN_del] at ho
  exact ⟨w', hrun, NmAt.of ho, turned_kept ht⟩
/-- What a range over names comes to is a name. -/
theorem at_mem {ns : List Nam} {s : List UInt8} {c : Int} (h : ∀ zd, (dN ns).atKey (.string s) zd = .lit (.int .i64 c)) : ∃ n : Nat, c = (n : Int) ∧ (s, n) ∈ ns := by
  have h0 := h (.lit (.bool true))
  unfold dN DataW.atKey at h0
  simp only [find_map] at h0
  cases q : ns.find? (fun x => x.1 == s) with
  | none => rw [q] at h0; injection h0 with h1; cases h1
  | some x =>
    rw [q] at h0
    have e : (DataW.lit (.int .i64 (x.2 : Int)) : DataW Unit) = .lit (.int .i64 c) := h0
    injection e with e1
    injection e1 with _ e2
    have hm := List.mem_of_find?_eq_some q
    have hs := List.find?_some q
    have hs2 : x.1 = s := eq_of_beq hs
    exact ⟨x.2, e2.symm, by rw [← hs2]; exact hm⟩
theorem risN_inj {ns : List Nam} (h : risN ns) {x y : Nam} (hx : x ∈ ns) (hy : y ∈ ns) (e : x.1 = y.1) : x = y := by
  induction ns with
  | nil => cases hx
  | cons z r ih =>
    rw [risN, List.pairwise_cons] at h
    rcases List.mem_cons.1 hx with rfl | hx1
    · rcases List.mem_cons.1 hy with rfl | hy1
      · rfl
      · have := h.1 y hy1
        rw [e, less_irr] at this
        cases this
    · rcases List.mem_cons.1 hy with rfl | hy1
      · have := h.1 x hx1
        rw [e, less_irr] at this
        cases this
      · exact ih h.2 hx1 hy1
theorem get_mem {ns : List Nam} (h : risN ns) {s : List UInt8} {n : Nat} : getN ns s = some n ↔ (s, n) ∈ ns := by
  unfold getN
  constructor
  · intro e
    cases q : ns.find? (fun x => x.1 == s) with
    | none => rw [q] at e; cases e
    | some x =>
      rw [q] at e
      have hs : x.1 = s := by have := List.find?_some q; exact eq_of_beq this
      have hn : x.2 = n := by injection e
      rw [← hs, ← hn]
      exact List.mem_of_find?_eq_some q
  · intro hm
    cases q : ns.find? (fun x => x.1 == s) with
    | none =>
      have := List.find?_eq_none.1 q _ hm
      simp at this
    | some x =>
      have hs : x.1 = s := by have := List.find?_some q; exact eq_of_beq this
      have := risN_inj h (List.mem_of_find?_eq_some q) hm hs
      rw [this]
      rfl
theorem mem_insN (x z : Nam) : ∀ l : List Nam, z ∈ insN x l ↔ z = x ∨ z ∈ l
  | [] => by simp [insN]
  | y :: r => by
    unfold insN
    split
    · simp
    · rw [List.mem_cons, mem_insN x z r, List.mem_cons]
      constructor
      · rintro (h | h | h)
        · exact Or.inr (Or.inl h)
        · exact Or.inl h
        · exact Or.inr (Or.inr h)
      · rintro (h | h | h)
        · exact Or.inr (Or.inl h)
        · exact Or.inl h
        · exact Or.inr (Or.inr h)
theorem mem_delN {ns : List Nam} {s : List UInt8} {z : Nam} : z ∈ delN ns s ↔ z ∈ ns ∧ z.1 ≠ s := by
  unfold delN
  rw [List.mem_filter]
  simp
theorem mem_putN {ns : List Nam} {s : List UInt8} {n : Nat} {z : Nam} : z ∈ putN ns s n ↔ z = (s, n) ∨ (z ∈ ns ∧ z.1 ≠ s) := by
  unfold putN
  rw [mem_insN, mem_delN]
end Go.Proofs.YtkhpmmmildcceaaGreat

namespace Go.Proofs.YtkhpmmmildcceaaGreat
open Go.ChangeShapes Go.WideShapes Go.ChangeAt Go.RowKit
set_option linter.unusedVariables false
set_option maxRecDepth 100000

open Go.Maps (Keyed)
/-- A range over names under way. -/
def RgAt (w : World) (m r : Nat) (ns : List Nam) (left : Lit → Bool) (cnt : Nat) : Prop := w.ranges Tryz.prog 9 (plainElem (H := Unit) Tryz.prog 3) m r ns.length (dN ns) left cnt
theorem RgAt.kept {F : Nat → Prop} {w w' : World} {m r : Nat} {ns : List Nam} {left : Lit → Bool} {cnt : Nat} (h : RgAt w m r ns left cnt) (k : Kept F w w') (hm : ¬ F m) (hr : ¬ F r) : RgAt w' m r ns left cnt := by
  have h1 := World.ownsMap.lt (World.ranges.owns h)
  have h2 := World.ranges.lt h
  obtain ⟨es, clock, since, seen, c0, hb, F', hs, hD, hrr, rest⟩ := h
  exact ⟨es, clock, since, seen, c0, (k.block m h1 hm).trans hb, F', hs, hD, (k.block r h2 hr).trans hrr, rest⟩
theorem RgAt.left {w : World} {m r : Nat} {ns : List Nam} {left : Lit → Bool} {cnt : Nat} (h : RgAt w m r ns left cnt) : w.rangeLeft m r = cnt := World.ranges.left_eq h
theorem RgAt.nm {w : World} {m r : Nat} {ns : List Nam} {left : Lit → Bool} {cnt : Nat} (h : RgAt w m r ns left cnt) : NmAt w m ns := World.ranges.owns h
theorem grown_kept {w w' : World} {row : Option Nat} (g : w.grownBy w' row) : Kept (fun i => some i = row) w w' := ⟨g.os, g.tape, g.output, g.size, fun k hk hn => g.block k hk hn⟩
section
variable {w : World} {ops : Array Oper} {rest : List Oper} {o : Oper} {a : Act} {Q : Exit → Act → World → Prop}
theorem range_si (hg : o.guard = none) (m : Operand) (hop : o.op = Op.range 66 m) (b : Nat) (ns : List Nam) (hm : a.eval m = .map (some b)) (h : NmAt w b ns)
    (hK : ∀ w', RgAt w' b w.heap.size ns (Maps.has (dN ns)) ns.length → Kept (fun _ => False) w w' → w'.heap.size = w.heap.size + 1 → wpList Tryz.prog ops Q rest (a.put o.dst (.pointer (some ⟨w.heap.size, 0, none⟩))) w') :
    wpList Tryz.prog ops Q (o :: rest) a w :=
  wpList_range_own w hg m 66 hop 9 3 law9 Tryz.underlying66 _ b _ _ hm h (fun w' r1 r2 r3 => hK w' (by rw [dN_size] at r1; exact r1) ((grown_kept r2).mono (fun i e => by cases e)) r3)
theorem next_si (hg : o.guard = none) (it : Operand) (hop : o.op = Op.next it false) (m r : Nat) (ns : List Nam) (left : Lit → Bool) (cnt : Nat) (hit : a.eval it = .pointer (some ⟨r, 0, none⟩)) (h : RgAt w m r ns left cnt)
    (hDone : (∀ kl, left kl = false) → wpList Tryz.prog ops Q rest (a.put o.dst (.tuple #[.bool false])) w)
    (hMore : ∀ (s : ByteArray) (n : Nat) (w' : World) (cnt' : Nat), (s.data.toList, n) ∈ ns → left (.string s.data.toList) = true → RgAt w' m r ns (fun z => left z && !z.sameKey (.string s.data.toList)) cnt' → cnt' < cnt → Kept (fun i => i = r) w w' → w'.heap.size = w.heap.size →
      (Instr.entry (.pointer (some ⟨r, 0, none⟩))).run Tryz.prog w' = .ok (.tuple #[.string s, .int .i64 (n : Int)]) w' → wpList Tryz.prog ops Q rest (a.put o.dst (.tuple #[.bool true, .string s, .int .i64 (n : Int)])) w') :
    wpList Tryz.prog ops Q (o :: rest) a w :=
  wpList_next_ranges w hg it hop 9 law9 (plainElem (H := Unit) Tryz.prog 3) Value.string (Value.int .i64) (fun key kl hkey => by
      cases key <;> simp [keyOf, mapKey] at hkey
      exact ⟨_, rfl⟩) (fun v y hv => by obtain ⟨c, rfl, _⟩ := plainElem_int_inv Tryz.u3 hv; exact ⟨c, rfl⟩)
    m r ns.length (dN ns) left cnt hit h (fun _ hl => hDone hl) (fun s c kl y w' cnt' hkey hlk hv hat hrg hlt hgr hsz hen => by
      obtain ⟨c', ec, hy, hwc⟩ := plainElem_int_inv Tryz.u3 hv
      injection ec with _ ec2
      subst ec2
      have hkl : kl = .string s.data.toList := by
        have := hkey
        simp only [keyOf, Tryz.u9, mapKey] at this
        split at this
        · injection this with q; exact q.symm
        · cases this
      subst hkl
      rw [hy] at hat
      obtain ⟨n, rfl, hm⟩ := at_mem hat
      exact hMore s n w' cnt' hm hlk hrg hlt ((grown_kept hgr).mono (fun i e => by injection e)) hsz hen)
end
/-- What was done of the names that have come. -/
def Did (ns : List Nam) (left : Lit → Bool) (P : Nam → Prop) : Prop := ∀ x, x ∈ ns → left (.string x.1) = false → P x
theorem has_mem {ns : List Nam} (h : risN ns) {x : Nam} (hx : x ∈ ns) : Maps.has (dN ns) (.string x.1) = true := by
  rw [dN_has, (get_mem h).2 hx]
  rfl
theorem Did.start {ns : List Nam} (h : risN ns) (P : Nam → Prop) : Did ns (Maps.has (dN ns)) P := fun x hx e => by
  rw [has_mem h hx] at e
  cases e
theorem Did.step {ns : List Nam} {left : Lit → Bool} {P : Nam → Prop} (hr : risN ns) (h : Did ns left P) {s : List UInt8} {n : Nat} (hm : (s, n) ∈ ns) (hp : P (s, n)) : Did ns (fun z => left z && !z.sameKey (.string s)) P := fun x hx e => by
  cases q : left (.string x.1) with
  | false => exact h x hx q
  | true =>
    have e2 : (left (.string x.1) && !(Lit.string x.1).sameKey (.string s)) = false := e
    rw [q, same_str] at e2
    have e3 : x.1 = s := by simpa using e2
    rw [risN_inj hr hx hm e3]
    exact hp
theorem Did.end {ns : List Nam} {left : Lit → Bool} {P : Nam → Prop} (h : Did ns left P) (hl : ∀ kl, left kl = false) : ∀ x, x ∈ ns → P x := fun x hx => h x hx (hl _)
theorem Did.imp {ns : List Nam} {left : Lit → Bool} {P P' : Nam → Prop} (h : Did ns left P) (hi : ∀ x, P x → P' x) : Did ns left P' := fun x hx e => hi x (h x hx e)
/-- Each name is of a page in use. -/
def soundN (u : List UInt8) (ns : List Nam) : Bool := ns.all (fun x => hasU u (x.2 : Int))
theorem snd_yes {u : List UInt8} {ns : List Nam} (h : ∀ x, x ∈ ns → hasU u (x.2 : Int) = true) : soundN u ns = true := List.all_eq_true.2 h
theorem snd_no {u : List UInt8} {ns : List Nam} {x : Nam} (hx : x ∈ ns) (h : hasU u (x.2 : Int) = false) : soundN u ns = false := by
  cases q : soundN u ns with
  | false => rfl
  | true => rw [List.all_eq_true.1 q x hx] at h; cases h
set_option maxHeartbeats 1000000 in
theorem sound_is {w : World} {b o m : Nat} {u : List UInt8} {ns : List Nam} (h : Us w b o u) (hm : w.cell? ⟨b, o + 63, none⟩ = some (.map (some m))) (hn : NmAt w m ns) : Calls Tryz.prog 56 #[.pointer (some ⟨b, o, none⟩)] w fun e w' => e = .returned (.bool (soundN u ns)) ∧ Kept (fun _ => False) w w' := by
  have HU : Hid (∀ V, Kept (fun _ => False) w V → ∀ n : Int, Calls Tryz.prog 54 #[.pointer (some ⟨b, o, none⟩), .int .i64 n] V fun e w' => e = .returned (.bool (hasU u n)) ∧ w' = V) := fun V k n => hasU_is ⟨h.1, fun i x hx => k.cell (h.2 i x hx) (fun z => z)⟩ n
  have HR : Hid (risN ns) := hn.ris
  have HN : Hid (NmAt w m ns) := hn
  have hml := hn.lt
  clear h hn
  go_enter Tryz.func56, Tryz.ntmps56
  go_wp2_with (first | (at_range; refine range_si rfl _ rfl m ns rfl HN.out ?_; intro w0 hrg0 hg0 hs0) | fail)
  go_frame
  have HG0 : Hid (RgAt w0 m w.heap.size ns (Maps.has (dN ns)) ns.length ∧ Kept (fun _ => False) w w0) := ⟨hrg0, hg0⟩
  clear hrg0 hg0 HN
  go_loopw [4] (fun _ wr => ∃ (left : Lit → Bool) (cnt : Nat), Hid (RgAt wr m w.heap.size ns left cnt ∧ Kept (fun _ => False) w wr ∧ Did ns left (fun x => hasU u (x.2 : Int) = true))) (fun _ wr => wr.rangeLeft m w.heap.size)
  case atStart => exact ⟨_, _, HG0.out.1, HG0.out.2, Did.start HR.out _⟩
  case round =>
    obtain ⟨left, cnt, HL⟩ := hrel
    go_wp2_with (first | (at_next; refine next_si rfl _ rfl m w.heap.size ns left cnt rfl HL.out.1 ?_ ?_) | fail)
    · intro hl
      have HE : Hid (∀ kl, left kl = false) := hl
      clear hl
      go_wp2_with fail
      go_ret
      exact ⟨by rw [snd_yes (HL.out.2.2.end HE.out)]; rfl, HL.out.2.1⟩
    · intro s n w1 cnt1 hsm hls hrg1 hlt hg1 hsz hen
      have k1 : Kept (fun _ => False) w w1 := HL.out.2.1.trans hg1 (fun i e => .inr (by omega))
      have HSM : Hid ((s.data.toList, n) ∈ ns) := hsm
      have HM : Hid (cnt1 < cnt) := hlt
      have HU1 := HU.out w1 k1 (n : Int)
      cases hq : hasU u (n : Int) with
      | true =>
        rw [hq] at HU1
        have HU2 : Hid _ := HU1
        have HL2 : Hid (RgAt w1 m w.heap.size ns (fun z => left z && !z.sameKey (.string s.data.toList)) cnt1 ∧ Kept (fun _ => False) w w1 ∧ Did ns (fun z => left z && !z.sameKey (.string s.data.toList)) (fun x => hasU u (x.2 : Int) = true)) := ⟨hrg1, k1, HL.out.2.2.step HR.out hsm hq⟩
        clear HU1 hq hsm hls hrg1 hlt hg1 hsz k1
        go_wp2_with fail
        refine Calls.mono HU2.out ?_; rintro e w5 ⟨rfl, rfl⟩
        go_wp2_with fail
        go_roundw
        case rel => exact ⟨_, _, HL2.out⟩
        case measure => rw [HL2.out.1.left, HL.out.1.left]; exact HM.out
      | false =>
        rw [hq] at HU1
        have HU2 : Hid _ := HU1
        have HF : Hid (soundN u ns = false ∧ Kept (fun _ => False) w w1) := ⟨snd_no hsm hq, k1⟩
        clear HU1 hq hsm hls hrg1 hlt hg1 hsz k1
        go_wp2_with fail
        refine Calls.mono HU2.out ?_; rintro e w5 ⟨rfl, rfl⟩
        go_wp2_with fail
        go_ret
        exact ⟨by rw [HF.out.1]; rfl, HF.out.2⟩
end Go.Proofs.YtkhpmmmildcceaaGreat

namespace Go.Proofs.YtkhpmmmildcceaaGreat
open Go.ChangeShapes Go.WideShapes Go.ChangeAt Go.RowKit
set_option linter.unusedVariables false
set_option maxRecDepth 100000

def usedK : List UInt8 := [112, 97, 103, 101, 115, 32, 105, 110, 32, 117, 115, 101]
def le2 (n : Nat) : List UInt8 := [UInt8.ofNat n, UInt8.ofNat (n / 256)]
def nC (x : Nam) : Cel := (x.1, le2 x.2)
def insC (x : Cel) : List Cel → List Cel
  | [] => [x]
  | y :: r => if Op.bytesLess x.1 y.1 then x :: y :: r else y :: insC x r
/-- The cells of a map. -/
def cellsN (u : List UInt8) (ns : List Nam) : List Cel := insC (usedK, u) (ns.map nC)
theorem mem_insC (x z : Cel) : ∀ l : List Cel, z ∈ insC x l ↔ z = x ∨ z ∈ l
  | [] => by simp [insC]
  | y :: r => by
    unfold insC
    split
    · simp
    · rw [List.mem_cons, mem_insC x z r, List.mem_cons]
      constructor
      · rintro (h | h | h)
        · exact Or.inr (Or.inl h)
        · exact Or.inl h
        · exact Or.inr (Or.inr h)
      · rintro (h | h | h)
        · exact Or.inr (Or.inl h)
        · exact Or.inl h
        · exact Or.inr (Or.inr h)
theorem less_of {a b : List UInt8} (h : Op.bytesLess a b = false) (hne : a ≠ b) : Op.bytesLess b a = true := by
  cases q : Op.bytesLess b a with
  | true => rfl
  | false => exact absurd (less_total a b h q) hne
theorem less_ne {a b : List UInt8} (h : Op.bytesLess a b = true) : a ≠ b := fun e => by
  rw [e, less_irr] at h
  cases h
def pwC (l : List Cel) : Prop := l.Pairwise (fun a b => Op.bytesLess a.1 b.1 = true)
theorem pw_insC (x : Cel) : ∀ l : List Cel, pwC l → (∀ y, y ∈ l → y.1 ≠ x.1) → pwC (insC x l)
  | [], _, _ => List.pairwise_cons.2 ⟨fun _ h => (by cases h), List.Pairwise.nil⟩
  | y :: r, h, hn => by
    have h' := List.pairwise_cons.1 h
    unfold insC
    split
    · rename_i q
      refine List.pairwise_cons.2 ⟨fun z hz => ?_, h⟩
      rcases List.mem_cons.1 hz with rfl | hz1
      · exact q
      · exact less_trans _ _ _ q (h'.1 z hz1)
    · rename_i q
      refine List.pairwise_cons.2 ⟨fun z hz => ?_, pw_insC x r h'.2 (fun z hz => hn z (List.mem_cons_of_mem _ hz))⟩
      rcases (mem_insC x z r).1 hz with rfl | hz1
      · exact less_of (by cases e : Op.bytesLess z.1 y.1 with | true => exact absurd e q | false => rfl) (fun e => hn y (List.mem_cons_self ..) e.symm)
      · exact h'.1 z hz1
theorem pw_sub : ∀ (b a : List Cel), pwC a → pwC b → (∀ c, c ∈ a → c ∈ b) → a.Sublist b
  | [], a, _, _, h => by
    cases a with
    | nil => exact List.Sublist.slnil
    | cons x s => exact absurd (h x (List.mem_cons_self ..)) (by simp)
  | y :: r, [], _, _, _ => List.nil_sublist _
  | y :: r, x :: s, ha, hb, h => by
    have ha' := List.pairwise_cons.1 ha
    have hb' := List.pairwise_cons.1 hb
    by_cases e : x = y
    · subst e
      refine List.Sublist.cons_cons _ (pw_sub r s ha'.2 hb'.2 (fun c hc => ?_))
      rcases List.mem_cons.1 (h c (List.mem_cons_of_mem _ hc)) with rfl | q
      · have := ha'.1 _ hc
        rw [less_irr] at this
        cases this
      · exact q
    · refine List.Sublist.cons _ (pw_sub r (x :: s) ha hb'.2 (fun c hc => ?_))
      rcases List.mem_cons.1 (h c hc) with rfl | q
      · rcases List.mem_cons.1 hc with q1 | q1
        · exact absurd q1.symm e
        · have hx : x ∈ r := by
            rcases List.mem_cons.1 (h x (List.mem_cons_self ..)) with q2 | q2
            · exact absurd q2 e
            · exact q2
          have := less_trans _ _ _ (ha'.1 _ q1) (hb'.1 x hx)
          rw [less_irr] at this
          cases this
      · exact q
theorem tot_sub {a b : List Cel} (h : a.Sublist b) : tot a ≤ tot b := by
  induction h with
  | slnil => exact Nat.le_refl _
  | cons c _ ih => show tot _ ≤ csz c + tot _; omega
  | cons_cons c _ ih => show csz c + tot _ ≤ csz c + tot _; omega
theorem pw_ext {a b : List Cel} (ha : pwC a) (hb : pwC b) (h : ∀ c, c ∈ a ↔ c ∈ b) : a = b := by
  have h1 := pw_sub b a ha hb (fun c hc => (h c).1 hc)
  have h2 := pw_sub a b hb ha (fun c hc => (h c).2 hc)
  exact h1.eq_of_length (Nat.le_antisymm h1.length_le h2.length_le)
/-- May a name be? -/
def okN (x : Nam) : Prop := 1 ≤ x.1.length ∧ x.1.length ≤ 8
theorem used_ne {x : Nam} (h : okN x) : x.1 ≠ usedK := fun e => by
  have := h.2
  rw [e] at this
  exact absurd this (by decide)
theorem mem_cellsN {u : List UInt8} {ns : List Nam} {c : Cel} : c ∈ cellsN u ns ↔ c = (usedK, u) ∨ ∃ x, x ∈ ns ∧ c = nC x := by
  unfold cellsN
  rw [mem_insC, List.mem_map]
  constructor
  · rintro (h | ⟨x, h1, h2⟩)
    · exact Or.inl h
    · exact Or.inr ⟨x, h1, h2.symm⟩
  · rintro (h | ⟨x, h1, h2⟩)
    · exact Or.inl h
    · exact Or.inr ⟨x, h1, h2.symm⟩
theorem pw_cellsN (u : List UInt8) {ns : List Nam} (hr : risN ns) (hn : ∀ x, x ∈ ns → okN x) : pwC (cellsN u ns) := by
  refine pw_insC _ _ (List.pairwise_map.2 hr) (fun y hy => ?_)
  obtain ⟨x, hx, rfl⟩ := List.mem_map.1 hy
  exact used_ne (hn x hx)
theorem tot_insC (x : Cel) : ∀ l : List Cel, tot (insC x l) = csz x + tot l ∧ (insC x l).length = l.length + 1
  | [] => ⟨rfl, rfl⟩
  | y :: r => by
    have := tot_insC x r
    unfold insC
    split
    · exact ⟨rfl, rfl⟩
    · refine ⟨?_, ?_⟩
      · show csz y + tot (insC x r) = csz x + (csz y + tot r); omega
      · show (insC x r).length + 1 = r.length + 1 + 1; omega
theorem tot_names : ∀ ns : List Nam, (∀ x, x ∈ ns → okN x) → tot (ns.map nC) ≤ 10 * ns.length
  | [], _ => Nat.zero_le _
  | x :: r, h => by
    have h1 := tot_names r (fun y hy => h y (List.mem_cons_of_mem _ hy))
    have h2 := (h x (List.mem_cons_self ..)).2
    show csz (nC x) + tot (r.map nC) ≤ 10 * (r.length + 1)
    have : csz (nC x) = x.1.length + 2 := rfl
    omega
theorem okC_cells {u : List UInt8} (hu : u.length = 63) {ns : List Nam} (hn : ∀ x, x ∈ ns → okN x) (hl : ns.length ≤ 6) : okC (cellsN u ns) := by
  refine ⟨fun c hc => ?_, ?_⟩
  · rcases mem_cellsN.1 hc with rfl | ⟨x, hx, rfl⟩
    · have : usedK.length = 12 := rfl
      unfold csz
      simp only [hu, this]
      omega
    · have h2 := hn x hx
      unfold okN at h2
      have e1 : csz (nC x) = x.1.length + 2 := rfl
      have e2 : (nC x).1 = x.1 := rfl
      rw [e1, e2]
      omega
  · have h1 := tot_insC (usedK, u) (ns.map nC)
    have h2 := tot_names ns hn
    have h3 : csz (usedK, u) = 75 := by unfold csz; rw [hu]; rfl
    unfold cellsN
    rw [h1.1, h1.2, List.length_map, h3]
    omega
theorem putC_bounds {cs : List Cel} {key : List UInt8} {k : Nat} {b : Bool} (hr : pwC cs) (hf : FindO cs key k b) : (∀ x, x ∈ cs.take k → Op.bytesLess x.1 key = true) ∧ (∀ x, x ∈ cs.drop (if b then k + 1 else k) → Op.bytesLess key x.1 = true) ∧ (∀ x, x ∈ cs → x.1 ≠ key → x ∈ cs.take k ∨ x ∈ cs.drop (if b then k + 1 else k)) := by
  have hris := (ris_pw cs).2 hr
  obtain ⟨r, hrr⟩ : ∃ r, (if b = true then k + 1 else k) = r := ⟨_, rfl⟩
  rw [hrr]
  have hrk : k ≤ r := by rw [← hrr]; split <;> omega
  refine ⟨fun x hx => ?_, fun x hx => ?_, fun x hx hne => ?_⟩
  · obtain ⟨i, hi, rfl⟩ := List.getElem_of_mem hx
    rw [List.length_take] at hi
    rw [List.getElem_take]
    exact hf.2.1 i (by omega) (by omega)
  · obtain ⟨i, hi, rfl⟩ := List.getElem_of_mem hx
    rw [List.length_drop] at hi
    rw [List.getElem_drop]
    have hkl : k < cs.length := by omega
    have h1 := hf.2.2.1 k hkl (Nat.le_refl _)
    cases b with
    | true =>
      obtain ⟨_, e⟩ := hf.2.2.2.1 rfl
      have hr1 : r = k + 1 := by rw [← hrr]; rfl
      have := hris k (r + i) hkl (by omega) (by omega)
      rw [e] at this
      exact this
    | false =>
      have hne : ¬ cs[k].1 = key := fun e => by
        have := hf.2.2.2.2 ⟨hkl, e⟩
        cases this
      have h2 : Op.bytesLess key cs[k].1 = true := less_of h1 hne
      rcases Nat.lt_or_eq_of_le (show k ≤ r + i by omega) with q | q
      · exact less_trans _ _ _ h2 (hris k (r + i) hkl (by omega) q)
      · have e : cs[r + i]'(by omega) = cs[k] := by congr 1; exact q.symm
        rw [e]; exact h2
  · obtain ⟨i, hi, rfl⟩ := List.getElem_of_mem hx
    rcases Nat.lt_or_ge i k with q | q
    · exact Or.inl (List.mem_take_iff_getElem.2 ⟨i, by omega, rfl⟩)
    · rcases Nat.lt_or_ge i r with q2 | q2
      · cases b with
        | true =>
          have hr1 : r = k + 1 := by rw [← hrr]; rfl
          obtain rfl : i = k := by omega
          obtain ⟨_, e⟩ := hf.2.2.2.1 rfl
          exact absurd e hne
        | false =>
          have hr1 : r = k := by rw [← hrr]; rfl
          omega
      · refine Or.inr (List.mem_drop_iff_getElem.2 ⟨i - r, by omega, ?_⟩)
        congr 1
        omega
theorem putC_mem {cs : List Cel} {key val : List UInt8} {k : Nat} {b : Bool} (hr : pwC cs) (hf : FindO cs key k b) (c : Cel) : c ∈ putC cs k (if b then k + 1 else k) (key, val) ↔ c = (key, val) ∨ (c ∈ cs ∧ c.1 ≠ key) := by
  obtain ⟨h1, h2, h3⟩ := putC_bounds hr hf
  unfold putC
  rw [List.mem_append, List.mem_append, List.mem_singleton]
  constructor
  · rintro (q | q | q)
    · exact Or.inr ⟨List.mem_of_mem_take q, less_ne (h1 c q)⟩
    · exact Or.inl q
    · exact Or.inr ⟨List.mem_of_mem_drop q, (less_ne (h2 c q)).symm⟩
  · rintro (q | ⟨q1, q2⟩)
    · exact Or.inr (Or.inl q)
    · rcases h3 c q1 q2 with q | q
      · exact Or.inl q
      · exact Or.inr (Or.inr q)
theorem putC_pw {cs : List Cel} {key val : List UInt8} {k : Nat} {b : Bool} (hr : pwC cs) (hf : FindO cs key k b) : pwC (putC cs k (if b then k + 1 else k) (key, val)) := by
  obtain ⟨h1, h2, h3⟩ := putC_bounds hr hf
  unfold putC pwC
  refine List.pairwise_append.2 ⟨hr.sublist (List.take_sublist _ _), List.pairwise_append.2 ⟨List.pairwise_singleton _ _, hr.sublist (List.drop_sublist _ _), fun x hx y hy => ?_⟩, fun x hx y hy => ?_⟩
  · rw [List.mem_singleton.1 hx]
    exact h2 y hy
  · rcases List.mem_append.1 hy with q | q
    · rw [List.mem_singleton.1 q]
      exact h1 x hx
    · exact less_trans _ _ _ (h1 x hx) (h2 y q)
theorem NX.mem {cs cs2 : List Cel} {key val : ByteArray} {g : Nat} (h : NX cs key val g cs2) (hr : pwC cs) : (∀ c, c ∈ cs2 → c = (key.data.toList, val.data.toList) ∨ c ∈ cs) ∧ (g = 0 → ∀ c, c ∈ cs2 ↔ c = (key.data.toList, val.data.toList) ∨ (c ∈ cs ∧ c.1 ≠ key.data.toList)) := by
  rcases h with ⟨rfl, _, rfl⟩ | ⟨_, k, b, hf, ⟨rfl, _, rfl⟩ | ⟨rfl, _, rfl⟩⟩
  · exact ⟨fun c hc => Or.inr hc, fun e => absurd e (by decide)⟩
  · exact ⟨fun c hc => Or.inr hc, fun e => absurd e (by decide)⟩
  · exact ⟨fun c hc => ((putC_mem hr hf c).1 hc).imp id (fun q => q.1), fun _ c => putC_mem hr hf c⟩
/-- Where a list that has all has room, a cell of it has. -/
theorem NX.room {cs cs2 all : List Cel} {key val : ByteArray} {g : Nat} (h : NX cs key val g cs2) (hr : pwC cs) (ha : pwC all) (hok : okC all) (hm : (key.data.toList, val.data.toList) ∈ all) (hs : ∀ c, c ∈ cs → c ∈ all) : g = 0 := by
  have lk : key.data.toList.length = key.size := by simp
  have lv : val.data.toList.length = val.size := by simp
  have hmc : mayC key val := by
    have := hok.1 _ hm
    unfold csz at this
    simp only [lk, lv] at this
    unfold mayC
    omega
  rcases h with ⟨_, hn, _⟩ | ⟨_, k, b, hf, ⟨_, hz, _⟩ | ⟨rfl, _, _⟩⟩
  · exact absurd hmc hn
  · exfalso
    have hsub := pw_sub all _ (putC_pw (val := val.data.toList) hr hf) ha (fun c hc => by
      rcases (putC_mem hr hf c).1 hc with rfl | q
      · exact hm
      · exact hs c q.1)
    have h1 := hsub.length_le
    have h2 := tot_sub hsub
    have h3 := hok.2
    omega
  · rfl
end Go.Proofs.YtkhpmmmildcceaaGreat
