/- ledger.changeOf, and what its closures do. -/
import Derived.Test.YtflbcheofmljeaaHoldC
import Derived.Test.YtflbcheofmljeaaPureD
import Derived.Test.YtflbcheofmljeaaClos
namespace Go.Proofs.Ytflbcheofmljeaa
open Go.ChangeShapes Go.WideShapes Go.RowKit
set_option linter.unusedVariables false
set_option maxRecDepth 100000

theorem KindP.over {w w1 w' : World} {b : Nat} {o : Opn} {fn : Nat} {err : Int} {e : Ending} (h : KindP w1 w' b o fn err e) (k : Below w.heap.size w w1) : KindP w w' b o fn err e := by
  obtain ⟨hb, h⟩ := h
  refine ⟨Below.next k hb, h.imp id ?_⟩
  rintro ⟨h0, pb, ob, he, h1, h2, hc⟩
  have := k.size
  exact ⟨h0, pb, ob, he, ⟨by omega, h1.2⟩, ⟨by omega, h2.2⟩, hc⟩
set_option maxHeartbeats 1000000 in
theorem changeOf_1 {w : World} {E : Nat → Prop} {b : Nat} {v0 v1 v2 : Value} {L : Led} (h : LedO w E b v0 v1 v2 L) (hm : mayL L) (hf : L.fit) (o : Opn) (ho : o.fit) (hm0 : o.may) (hk : o.k = 1) :
    Calls Try.prog 49 #[.pointer (some ⟨b, 0, none⟩), oval o] w fun e w' => KindP w w' b o 87 (errR L o) e := by
  have HK : Hid (∀ z, Calls Try.prog 68 #[.pointer (some ⟨b, 0, none⟩), oval o] (w.alloc z) fun e w' => KindP w w' b o 87 (errR L o) e) := fun z => (receive_is (h.next (below1 w z)) hm hf o ho).mono fun e w' q => q.over (below1 w z)
  have HN : Hid (∀ w', Below w.heap.size w w' → ∀ x : Int, x = errR L o → ¬ x = 0 → KindP w w' b o 87 (errR L o) (.returned (.tuple #[.nilFunc, .int .i64 x]))) := fun w' k x e hx => by subst e; exact KindP.no k hx
  obtain ⟨err, herr⟩ : ∃ err, errR L o = err := ⟨_, rfl⟩
  rw [herr] at HK HN ⊢
  obtain ⟨ok, os, ol, ot, oq, oi, od⟩ := o
  change ok = 1 at hk
  subst hk
  have HK2 : Hid (∀ z, Calls Try.prog 68 #[.pointer (some ⟨b, 0, none⟩), .agg #[.int .i64 1, .string os, .string ol, .string ot, .int .i64 oq, .int .i64 oi, .int .i64 od]] (w.alloc z) fun e w' => KindP w w' b ⟨1, os, ol, ot, oq, oi, od⟩ 87 err e) := HK.out
  show Calls Try.prog 49 #[.pointer (some ⟨b, 0, none⟩), .agg #[.int .i64 1, .string os, .string ol, .string ot, .int .i64 oq, .int .i64 oi, .int .i64 od]] w _
  clear HK h hm hf ho hm0 herr
  go_enter Try.func49, Try.ntmps49
  go_wp2_with fail
  refine Calls.mono (HK2.out _) ?_; rintro e w1 q
  rcases q with ⟨hb, ⟨hne, rfl⟩ | ⟨h0, pb, ob, rfl, hx⟩⟩
  · have HQ : Hid (KindP w w1 b ⟨1, os, ol, ot, oq, oi, od⟩ 87 err (.returned (.tuple #[.nilFunc, .int .i64 err]))) := KindP.no hb hne
    clear hb hne
    go_wp2_with fail
    go_ret2
    exact HQ.out
  · have HQ : Hid (KindP w w1 b ⟨1, os, ol, ot, oq, oi, od⟩ 87 err (.returned (.tuple #[.func (.func 87) #[] #[.pointer (some ⟨pb, 0, none⟩), .pointer (some ⟨ob, 0, none⟩)], .int .i64 0]))) := ⟨hb, .inr ⟨h0, pb, ob, rfl, hx⟩⟩
    clear hb h0 hx
    go_wp2_with fail
    go_ret2
    exact HQ.out
set_option maxHeartbeats 1000000 in
theorem changeOf_2 {w : World} {E : Nat → Prop} {b : Nat} {v0 v1 v2 : Value} {L : Led} (h : LedO w E b v0 v1 v2 L) (hm : mayL L) (hf : L.fit) (o : Opn) (ho : o.fit) (hm0 : o.may) (hk : o.k = 2) :
    Calls Try.prog 49 #[.pointer (some ⟨b, 0, none⟩), oval o] w fun e w' => KindP w w' b o 89 (errH L o) e := by
  have HK : Hid (∀ z, Calls Try.prog 69 #[.pointer (some ⟨b, 0, none⟩), oval o] (w.alloc z) fun e w' => KindP w w' b o 89 (errH L o) e) := fun z => (hold_is (h.next (below1 w z)) hm hf o ho).mono fun e w' q => q.over (below1 w z)
  have HN : Hid (∀ w', Below w.heap.size w w' → ∀ x : Int, x = errH L o → ¬ x = 0 → KindP w w' b o 89 (errH L o) (.returned (.tuple #[.nilFunc, .int .i64 x]))) := fun w' k x e hx => by subst e; exact KindP.no k hx
  obtain ⟨err, herr⟩ : ∃ err, errH L o = err := ⟨_, rfl⟩
  rw [herr] at HK HN ⊢
  obtain ⟨ok, os, ol, ot, oq, oi, od⟩ := o
  change ok = 2 at hk
  subst hk
  have HK2 : Hid (∀ z, Calls Try.prog 69 #[.pointer (some ⟨b, 0, none⟩), .agg #[.int .i64 2, .string os, .string ol, .string ot, .int .i64 oq, .int .i64 oi, .int .i64 od]] (w.alloc z) fun e w' => KindP w w' b ⟨2, os, ol, ot, oq, oi, od⟩ 89 err e) := HK.out
  show Calls Try.prog 49 #[.pointer (some ⟨b, 0, none⟩), .agg #[.int .i64 2, .string os, .string ol, .string ot, .int .i64 oq, .int .i64 oi, .int .i64 od]] w _
  clear HK h hm hf ho hm0 herr
  go_enter Try.func49, Try.ntmps49
  go_wp2_with fail
  refine Calls.mono (HK2.out _) ?_; rintro e w1 q
  rcases q with ⟨hb, ⟨hne, rfl⟩ | ⟨h0, pb, ob, rfl, hx⟩⟩
  · have HQ : Hid (KindP w w1 b ⟨2, os, ol, ot, oq, oi, od⟩ 89 err (.returned (.tuple #[.nilFunc, .int .i64 err]))) := KindP.no hb hne
    clear hb hne
    go_wp2_with fail
    go_ret2
    exact HQ.out
  · have HQ : Hid (KindP w w1 b ⟨2, os, ol, ot, oq, oi, od⟩ 89 err (.returned (.tuple #[.func (.func 89) #[] #[.pointer (some ⟨pb, 0, none⟩), .pointer (some ⟨ob, 0, none⟩)], .int .i64 0]))) := ⟨hb, .inr ⟨h0, pb, ob, rfl, hx⟩⟩
    clear hb h0 hx
    go_wp2_with fail
    go_ret2
    exact HQ.out
set_option maxHeartbeats 1000000 in
theorem changeOf_3 {w : World} {E : Nat → Prop} {b : Nat} {v0 v1 v2 : Value} {L : Led} (h : LedO w E b v0 v1 v2 L) (hm : mayL L) (hf : L.fit) (o : Opn) (ho : o.fit) (hm0 : o.may) (hk : o.k = 3) :
    Calls Try.prog 49 #[.pointer (some ⟨b, 0, none⟩), oval o] w fun e w' => KindP w w' b o 92 (errC L o) e := by
  have HK : Hid (∀ z, Calls Try.prog 70 #[.pointer (some ⟨b, 0, none⟩), oval o] (w.alloc z) fun e w' => KindP w w' b o 92 (errC L o) e) := fun z => (commit_is (h.next (below1 w z)) hm hf o ho (may34 hm0 (by omega))).mono fun e w' q => q.over (below1 w z)
  have HN : Hid (∀ w', Below w.heap.size w w' → ∀ x : Int, x = errC L o → ¬ x = 0 → KindP w w' b o 92 (errC L o) (.returned (.tuple #[.nilFunc, .int .i64 x]))) := fun w' k x e hx => by subst e; exact KindP.no k hx
  obtain ⟨err, herr⟩ : ∃ err, errC L o = err := ⟨_, rfl⟩
  rw [herr] at HK HN ⊢
  obtain ⟨ok, os, ol, ot, oq, oi, od⟩ := o
  change ok = 3 at hk
  subst hk
  have HK2 : Hid (∀ z, Calls Try.prog 70 #[.pointer (some ⟨b, 0, none⟩), .agg #[.int .i64 3, .string os, .string ol, .string ot, .int .i64 oq, .int .i64 oi, .int .i64 od]] (w.alloc z) fun e w' => KindP w w' b ⟨3, os, ol, ot, oq, oi, od⟩ 92 err e) := HK.out
  show Calls Try.prog 49 #[.pointer (some ⟨b, 0, none⟩), .agg #[.int .i64 3, .string os, .string ol, .string ot, .int .i64 oq, .int .i64 oi, .int .i64 od]] w _
  clear HK h hm hf ho hm0 herr
  go_enter Try.func49, Try.ntmps49
  go_wp2_with fail
  refine Calls.mono (HK2.out _) ?_; rintro e w1 q
  rcases q with ⟨hb, ⟨hne, rfl⟩ | ⟨h0, pb, ob, rfl, hx⟩⟩
  · have HQ : Hid (KindP w w1 b ⟨3, os, ol, ot, oq, oi, od⟩ 92 err (.returned (.tuple #[.nilFunc, .int .i64 err]))) := KindP.no hb hne
    clear hb hne
    go_wp2_with fail
    go_ret2
    exact HQ.out
  · have HQ : Hid (KindP w w1 b ⟨3, os, ol, ot, oq, oi, od⟩ 92 err (.returned (.tuple #[.func (.func 92) #[] #[.pointer (some ⟨pb, 0, none⟩), .pointer (some ⟨ob, 0, none⟩)], .int .i64 0]))) := ⟨hb, .inr ⟨h0, pb, ob, rfl, hx⟩⟩
    clear hb h0 hx
    go_wp2_with fail
    go_ret2
    exact HQ.out
set_option maxHeartbeats 1000000 in
theorem changeOf_4 {w : World} {E : Nat → Prop} {b : Nat} {v0 v1 v2 : Value} {L : Led} (h : LedO w E b v0 v1 v2 L) (hm : mayL L) (hf : L.fit) (o : Opn) (ho : o.fit) (hm0 : o.may) (hk : o.k = 4) :
    Calls Try.prog 49 #[.pointer (some ⟨b, 0, none⟩), oval o] w fun e w' => KindP w w' b o 94 (errU L o) e := by
  have HK : Hid (∀ z, Calls Try.prog 71 #[.pointer (some ⟨b, 0, none⟩), oval o] (w.alloc z) fun e w' => KindP w w' b o 94 (errU L o) e) := fun z => (release_is (h.next (below1 w z)) hm hf o ho (may34 hm0 (by omega))).mono fun e w' q => q.over (below1 w z)
  have HN : Hid (∀ w', Below w.heap.size w w' → ∀ x : Int, x = errU L o → ¬ x = 0 → KindP w w' b o 94 (errU L o) (.returned (.tuple #[.nilFunc, .int .i64 x]))) := fun w' k x e hx => by subst e; exact KindP.no k hx
  obtain ⟨err, herr⟩ : ∃ err, errU L o = err := ⟨_, rfl⟩
  rw [herr] at HK HN ⊢
  obtain ⟨ok, os, ol, ot, oq, oi, od⟩ := o
  change ok = 4 at hk
  subst hk
  have HK2 : Hid (∀ z, Calls Try.prog 71 #[.pointer (some ⟨b, 0, none⟩), .agg #[.int .i64 4, .string os, .string ol, .string ot, .int .i64 oq, .int .i64 oi, .int .i64 od]] (w.alloc z) fun e w' => KindP w w' b ⟨4, os, ol, ot, oq, oi, od⟩ 94 err e) := HK.out
  show Calls Try.prog 49 #[.pointer (some ⟨b, 0, none⟩), .agg #[.int .i64 4, .string os, .string ol, .string ot, .int .i64 oq, .int .i64 oi, .int .i64 od]] w _
  clear HK h hm hf ho hm0 herr
  go_enter Try.func49, Try.ntmps49
  go_wp2_with fail
  refine Calls.mono (HK2.out _) ?_; rintro e w1 q
  rcases q with ⟨hb, ⟨hne, rfl⟩ | ⟨h0, pb, ob, rfl, hx⟩⟩
  · have HQ : Hid (KindP w w1 b ⟨4, os, ol, ot, oq, oi, od⟩ 94 err (.returned (.tuple #[.nilFunc, .int .i64 err]))) := KindP.no hb hne
    clear hb hne
    go_wp2_with fail
    go_ret2
    exact HQ.out
  · have HQ : Hid (KindP w w1 b ⟨4, os, ol, ot, oq, oi, od⟩ 94 err (.returned (.tuple #[.func (.func 94) #[] #[.pointer (some ⟨pb, 0, none⟩), .pointer (some ⟨ob, 0, none⟩)], .int .i64 0]))) := ⟨hb, .inr ⟨h0, pb, ob, rfl, hx⟩⟩
    clear hb h0 hx
    go_wp2_with fail
    go_ret2
    exact HQ.out
set_option maxHeartbeats 1000000 in
theorem changeOf_5 {w : World} {E : Nat → Prop} {b : Nat} {v0 v1 v2 : Value} {L : Led} (h : LedO w E b v0 v1 v2 L) (hm : mayL L) (hf : L.fit) (o : Opn) (ho : o.fit) (hm0 : o.may) (hk : o.k = 5) :
    Calls Try.prog 49 #[.pointer (some ⟨b, 0, none⟩), oval o] w fun e w' => KindP w w' b o 95 (errE L o) e := by
  have HK : Hid (∀ z, Calls Try.prog 72 #[.pointer (some ⟨b, 0, none⟩), oval o] (w.alloc z) fun e w' => KindP w w' b o 95 (errE L o) e) := fun z => (expire_is (h.next (below1 w z)) hm hf o ho).mono fun e w' q => q.over (below1 w z)
  have HN : Hid (∀ w', Below w.heap.size w w' → ∀ x : Int, x = errE L o → ¬ x = 0 → KindP w w' b o 95 (errE L o) (.returned (.tuple #[.nilFunc, .int .i64 x]))) := fun w' k x e hx => by subst e; exact KindP.no k hx
  obtain ⟨err, herr⟩ : ∃ err, errE L o = err := ⟨_, rfl⟩
  rw [herr] at HK HN ⊢
  obtain ⟨ok, os, ol, ot, oq, oi, od⟩ := o
  change ok = 5 at hk
  subst hk
  have HK2 : Hid (∀ z, Calls Try.prog 72 #[.pointer (some ⟨b, 0, none⟩), .agg #[.int .i64 5, .string os, .string ol, .string ot, .int .i64 oq, .int .i64 oi, .int .i64 od]] (w.alloc z) fun e w' => KindP w w' b ⟨5, os, ol, ot, oq, oi, od⟩ 95 err e) := HK.out
  show Calls Try.prog 49 #[.pointer (some ⟨b, 0, none⟩), .agg #[.int .i64 5, .string os, .string ol, .string ot, .int .i64 oq, .int .i64 oi, .int .i64 od]] w _
  clear HK h hm hf ho hm0 herr
  go_enter Try.func49, Try.ntmps49
  go_wp2_with fail
  refine Calls.mono (HK2.out _) ?_; rintro e w1 q
  rcases q with ⟨hb, ⟨hne, rfl⟩ | ⟨h0, pb, ob, rfl, hx⟩⟩
  · have HQ : Hid (KindP w w1 b ⟨5, os, ol, ot, oq, oi, od⟩ 95 err (.returned (.tuple #[.nilFunc, .int .i64 err]))) := KindP.no hb hne
    clear hb hne
    go_wp2_with fail
    go_ret2
    exact HQ.out
  · have HQ : Hid (KindP w w1 b ⟨5, os, ol, ot, oq, oi, od⟩ 95 err (.returned (.tuple #[.func (.func 95) #[] #[.pointer (some ⟨pb, 0, none⟩), .pointer (some ⟨ob, 0, none⟩)], .int .i64 0]))) := ⟨hb, .inr ⟨h0, pb, ob, rfl, hx⟩⟩
    clear hb h0 hx
    go_wp2_with fail
    go_ret2
    exact HQ.out
set_option maxHeartbeats 1000000 in
theorem changeOf_6 {w : World} {E : Nat → Prop} {b : Nat} {v0 v1 v2 : Value} {L : Led} (h : LedO w E b v0 v1 v2 L) (hm : mayL L) (hf : L.fit) (o : Opn) (ho : o.fit) (hm0 : o.may) (hk : o.k = 6) :
    Calls Try.prog 49 #[.pointer (some ⟨b, 0, none⟩), oval o] w fun e w' => KindP w w' b o 96 (errT L o) e := by
  have HK : Hid (∀ z, Calls Try.prog 73 #[.pointer (some ⟨b, 0, none⟩), oval o] (w.alloc z) fun e w' => KindP w w' b o 96 (errT L o) e) := fun z => (transfer_is (h.next (below1 w z)) hm hf o ho).mono fun e w' q => q.over (below1 w z)
  have HN : Hid (∀ w', Below w.heap.size w w' → ∀ x : Int, x = errT L o → ¬ x = 0 → KindP w w' b o 96 (errT L o) (.returned (.tuple #[.nilFunc, .int .i64 x]))) := fun w' k x e hx => by subst e; exact KindP.no k hx
  obtain ⟨err, herr⟩ : ∃ err, errT L o = err := ⟨_, rfl⟩
  rw [herr] at HK HN ⊢
  obtain ⟨ok, os, ol, ot, oq, oi, od⟩ := o
  change ok = 6 at hk
  subst hk
  have HK2 : Hid (∀ z, Calls Try.prog 73 #[.pointer (some ⟨b, 0, none⟩), .agg #[.int .i64 6, .string os, .string ol, .string ot, .int .i64 oq, .int .i64 oi, .int .i64 od]] (w.alloc z) fun e w' => KindP w w' b ⟨6, os, ol, ot, oq, oi, od⟩ 96 err e) := HK.out
  show Calls Try.prog 49 #[.pointer (some ⟨b, 0, none⟩), .agg #[.int .i64 6, .string os, .string ol, .string ot, .int .i64 oq, .int .i64 oi, .int .i64 od]] w _
  clear HK h hm hf ho hm0 herr
  go_enter Try.func49, Try.ntmps49
  go_wp2_with fail
  refine Calls.mono (HK2.out _) ?_; rintro e w1 q
  rcases q with ⟨hb, ⟨hne, rfl⟩ | ⟨h0, pb, ob, rfl, hx⟩⟩
  · have HQ : Hid (KindP w w1 b ⟨6, os, ol, ot, oq, oi, od⟩ 96 err (.returned (.tuple #[.nilFunc, .int .i64 err]))) := KindP.no hb hne
    clear hb hne
    go_wp2_with fail
    go_ret2
    exact HQ.out
  · have HQ : Hid (KindP w w1 b ⟨6, os, ol, ot, oq, oi, od⟩ 96 err (.returned (.tuple #[.func (.func 96) #[] #[.pointer (some ⟨pb, 0, none⟩), .pointer (some ⟨ob, 0, none⟩)], .int .i64 0]))) := ⟨hb, .inr ⟨h0, pb, ob, rfl, hx⟩⟩
    clear hb h0 hx
    go_wp2_with fail
    go_ret2
    exact HQ.out
set_option maxHeartbeats 1000000 in
theorem changeOf_7 {w : World} {E : Nat → Prop} {b : Nat} {v0 v1 v2 : Value} {L : Led} (h : LedO w E b v0 v1 v2 L) (hm : mayL L) (hf : L.fit) (o : Opn) (ho : o.fit) (hm0 : o.may) (hk : o.k = 7) :
    Calls Try.prog 49 #[.pointer (some ⟨b, 0, none⟩), oval o] w fun e w' => KindP w w' b o 97 (errA L o) e := by
  have HK : Hid (∀ z, Calls Try.prog 74 #[.pointer (some ⟨b, 0, none⟩), oval o] (w.alloc z) fun e w' => KindP w w' b o 97 (errA L o) e) := fun z => (adjust_is (h.next (below1 w z)) hm hf o ho).mono fun e w' q => q.over (below1 w z)
  have HN : Hid (∀ w', Below w.heap.size w w' → ∀ x : Int, x = errA L o → ¬ x = 0 → KindP w w' b o 97 (errA L o) (.returned (.tuple #[.nilFunc, .int .i64 x]))) := fun w' k x e hx => by subst e; exact KindP.no k hx
  obtain ⟨err, herr⟩ : ∃ err, errA L o = err := ⟨_, rfl⟩
  rw [herr] at HK HN ⊢
  obtain ⟨ok, os, ol, ot, oq, oi, od⟩ := o
  change ok = 7 at hk
  subst hk
  have HK2 : Hid (∀ z, Calls Try.prog 74 #[.pointer (some ⟨b, 0, none⟩), .agg #[.int .i64 7, .string os, .string ol, .string ot, .int .i64 oq, .int .i64 oi, .int .i64 od]] (w.alloc z) fun e w' => KindP w w' b ⟨7, os, ol, ot, oq, oi, od⟩ 97 err e) := HK.out
  show Calls Try.prog 49 #[.pointer (some ⟨b, 0, none⟩), .agg #[.int .i64 7, .string os, .string ol, .string ot, .int .i64 oq, .int .i64 oi, .int .i64 od]] w _
  clear HK h hm hf ho hm0 herr
  go_enter Try.func49, Try.ntmps49
  go_wp2_with fail
  refine Calls.mono (HK2.out _) ?_; rintro e w1 q
  rcases q with ⟨hb, ⟨hne, rfl⟩ | ⟨h0, pb, ob, rfl, hx⟩⟩
  · have HQ : Hid (KindP w w1 b ⟨7, os, ol, ot, oq, oi, od⟩ 97 err (.returned (.tuple #[.nilFunc, .int .i64 err]))) := KindP.no hb hne
    clear hb hne
    go_wp2_with fail
    go_ret2
    exact HQ.out
  · have HQ : Hid (KindP w w1 b ⟨7, os, ol, ot, oq, oi, od⟩ 97 err (.returned (.tuple #[.func (.func 97) #[] #[.pointer (some ⟨pb, 0, none⟩), .pointer (some ⟨ob, 0, none⟩)], .int .i64 0]))) := ⟨hb, .inr ⟨h0, pb, ob, rfl, hx⟩⟩
    clear hb h0 hx
    go_wp2_with fail
    go_ret2
    exact HQ.out
theorem changeOf_is {w : World} {E : Nat → Prop} {b : Nat} {v0 v1 v2 : Value} {L : Led} (h : LedO w E b v0 v1 v2 L) (hm : mayL L) (hf : L.fit) (o : Opn) (ho : o.fit) (hm0 : o.may) :
    Calls Try.prog 49 #[.pointer (some ⟨b, 0, none⟩), oval o] w fun e w' => KindP w w' b o (fnOf o.k) (errOf L o) e := by
  rcases kinds hm0 with k | k | k | k | k | k | k
  · have e1 : errOf L o = errR L o := by unfold errOf; rw [k]; rfl
    rw [e1, k]; exact changeOf_1 h hm hf o ho hm0 k
  · have e1 : errOf L o = errH L o := by unfold errOf; rw [k]; rfl
    rw [e1, k]; exact changeOf_2 h hm hf o ho hm0 k
  · have e1 : errOf L o = errC L o := by unfold errOf; rw [k]; rfl
    rw [e1, k]; exact changeOf_3 h hm hf o ho hm0 k
  · have e1 : errOf L o = errU L o := by unfold errOf; rw [k]; rfl
    rw [e1, k]; exact changeOf_4 h hm hf o ho hm0 k
  · have e1 : errOf L o = errE L o := by unfold errOf; rw [k]; rfl
    rw [e1, k]; exact changeOf_5 h hm hf o ho hm0 k
  · have e1 : errOf L o = errT L o := by unfold errOf; rw [k]; rfl
    rw [e1, k]; exact changeOf_6 h hm hf o ho hm0 k
  · have e1 : errOf L o = errA L o := by unfold errOf; rw [k]; rfl
    rw [e1, k]; exact changeOf_7 h hm hf o ho hm0 k

/-- What a closure does. -/
theorem run_is {w : World} {E : Nat → Prop} {b : Nat} {v0 v1 v2 : Value} {L : Led} (h : LedO w E b v0 v1 v2 L) (hm : mayL L) (hf : L.fit) (o : Opn) (ho : o.fit) (hm0 : o.may) (he : errOf L o = 0) (pb ob : Nat) (hc : Cap w pb ob b o) (hpE : E pb) (hoE : E ob) :
    (Calls Try.prog (fnOf o.k) #[.pointer (some ⟨pb, 0, none⟩), .pointer (some ⟨ob, 0, none⟩)] w fun e w' => e = .returned (.tuple #[]) ∧ ∃ v0' v1' v2', LedO w' E b v0' v1' v2' (chL L o) ∧ Stay E w w') ∧ mayL (chL L o) ∧ (chL L o).fit := by
  have hl := lens hm
  have hz : o.qty ≤ 9223372036854775807 := ho.qty.2
  rcases kinds hm0 with k | k | k | k | k | k | k
  · have e1 : errOf L o = errR L o := by unfold errOf; rw [k]; rfl
    have e2 : chL L o = mvL L o.k o.sku o.loc o.qty 0 := by unfold chL; rw [k]; rfl
    rw [e1] at he
    have q := one_receive hm hf ho hm0 k he
    refine ⟨?_, by rw [e2]; exact q.may, by rw [e2]; exact q.fit⟩
    rw [e2, show fnOf o.k = 87 by rw [k]; rfl]
    exact (receiveC_is h hm.S.2 (by omega) (by omega) pb ob o hc q.i).mono fun e w' ⟨r1, a, c, r2⟩ => ⟨r1, a, v1, c, r2⟩
  · have e1 : errOf L o = errH L o := by unfold errOf; rw [k]; rfl
    have e2 : chL L o = holdL L o.sku o.loc o.qty o.due := by unfold chL; rw [k]; rfl
    rw [e1] at he
    have q := hold_of hm hf ho hm0 k he
    refine ⟨?_, by rw [e2]; exact q.may, by rw [e2]; exact q.fit⟩
    rw [e2, show fnOf o.k = 89 by rw [k]; rfl]
    exact (holdC_is h hm.S.2 (by omega) (by omega) pb ob o hc hpE hoE q.i).mono fun e w' ⟨r1, a, c, r2⟩ => ⟨r1, a, c, v2, r2⟩
  · have e1 : errOf L o = errC L o := by unfold errOf; rw [k]; rfl
    rw [e1] at he
    obtain ⟨⟨x, hx, h0⟩, hr⟩ := errC_zero he
    have q := out_of hm hf ho (may34 hm0 (.inl k)) k hx h0 hr
    have e2 : chL L o = mvL (endL L (o.id - 1).toNat x 1) o.k x.sku x.loc (-x.qty) x.id := by unfold chL; rw [k, hx]; rfl
    refine ⟨?_, by rw [e2]; exact q.may, by rw [e2]; exact q.fit⟩
    have hl2 := lens q.up.may
    have hxq := q.up.ok.2.2.2.1
    have hxf := q.up.xf.qty.2
    rw [e2, show fnOf o.k = 92 by rw [k]; rfl]
    exact (commitC_is h hm.S.2 (by omega) (by omega) (by omega) pb ob o hc hpE hoE _ x hx q.up.id ⟨by omega, hxf⟩ q.up.i q.up.may.S.2 (by omega) q.i).mono fun e w' ⟨r1, a, c, r2⟩ => ⟨r1, a, v1, c, r2⟩
  · have e1 : errOf L o = errU L o := by unfold errOf; rw [k]; rfl
    rw [e1] at he
    obtain ⟨x, hx, h0⟩ := errU_zero he
    have q := up_of hm hf (may34 hm0 (.inr k)) (.inr rfl) hx h0
    have e2 : chL L o = endL L (o.id - 1).toNat x 2 := by unfold chL; rw [k, hx]; rfl
    refine ⟨?_, by rw [e2]; exact q.may, by rw [e2]; exact q.fit⟩
    rw [e2, show fnOf o.k = 94 by rw [k]; rfl]
    exact (releaseC_is h hm.S.2 (by omega) (by omega) pb ob o hc _ x hx q.id q.i).mono fun e w' ⟨r1, a, r2⟩ => ⟨r1, a, v1, v2, r2⟩
  · have e2 : chL L o = expL L o.due L.H.length := by unfold chL; rw [k]; rfl
    refine ⟨?_, by rw [e2]; exact expL_may hm _ _, by rw [e2]; exact expL_fit hm hf _ _⟩
    rw [e2, show fnOf o.k = 95 by rw [k]; rfl]
    exact (expireC_is h hm hf pb ob o hc hpE hoE).mono fun e w' ⟨r1, a, r2⟩ => ⟨r1, a, v1, v2, r2⟩
  · have e1 : errOf L o = errT L o := by unfold errOf; rw [k]; rfl
    have e2 : chL L o = mvL (mvL L o.k o.sku o.loc (-o.qty) 0) o.k o.sku o.to o.qty 0 := by unfold chL; rw [k]; rfl
    rw [e1] at he
    have q := tra_of hm hf ho hm0 k he
    refine ⟨?_, by rw [e2]; exact q.may, by rw [e2]; exact q.fit⟩
    have hl2 := lens q.may1
    have hq := q.q
    rw [e2, show fnOf o.k = 96 by rw [k]; rfl]
    exact (transferC_is h hm.S.2 (by omega) (by omega) pb ob o hc hpE hoE ⟨by omega, hz⟩ q.i1 q.may1.S.2 (by omega) q.i2).mono fun e w' ⟨r1, a, c, r2⟩ => ⟨r1, a, v1, c, r2⟩
  · have e1 : errOf L o = errA L o := by unfold errOf; rw [k]; rfl
    have e2 : chL L o = mvL L o.k o.sku o.loc o.qty 0 := by unfold chL; rw [k]; rfl
    rw [e1] at he
    have q := one_adjust hm hf ho hm0 k he
    refine ⟨?_, by rw [e2]; exact q.may, by rw [e2]; exact q.fit⟩
    rw [e2, show fnOf o.k = 97 by rw [k]; rfl]
    exact (adjustC_is h hm.S.2 (by omega) (by omega) pb ob o hc q.i).mono fun e w' ⟨r1, a, c, r2⟩ => ⟨r1, a, v1, c, r2⟩
end Go.Proofs.Ytflbcheofmljeaa
