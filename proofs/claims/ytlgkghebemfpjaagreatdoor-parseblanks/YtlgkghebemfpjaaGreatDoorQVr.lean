/- Rows in memory that are the same but for places. Expressions in a row: the document's comparison. Two variables that are made and written. Rows of items in memory. -/
import Derived.Test.YtlgkghebemfpjaaGreatDoorQEx
import Derived.Test.YtlgkghebemfpjaaGreatDoorQSm
import Derived.Deep.RegionHeld
import Derived.Test.YtlgkghebemfpjaaGreatDoorQPd
namespace Go.Proofs.YtlgkghebemfpjaaGreatDoor.Pa
open Go.ChangeShapes Go.WideShapes Go.ChangeAt Go.RowKit
set_option linter.unusedVariables false
set_option linter.unusedSimpArgs false
set_option maxRecDepth 100000
structure VR (k : Kd) (N : Nat) (w : World) (us vs : List Value) : Prop where
 ex : ∃ ds ds',RepL (fun _ => True) w us ds ∧ RepL (fun _ => True) w vs ds' ∧ RowE k 1 ds ds' ∧ ∀ d ∈ ds,SizeOf.sizeOf d ≤ N
structure VS (k : Kd) (N : Nat) (w : World) (u v : Value) : Prop where
 ex : ∃ p c q c' n l l',u = .slice p n c ∧ v = .slice q n c' ∧ Rep (fun _ => True) w (.slice p n c) (.sl n l) ∧ Rep (fun _ => True) w (.slice q n c') (.sl n l') ∧ RowE k n l l' ∧ n ≤ 9223372036854775807 ∧ SizeOf.sizeOf (DT.sl n l) ≤ N
theorem rt_kept {w w' : World} {v : Value} {d : DT} (h : Rep (fun _ => True) w v d) (k : Kept (fun _ => False) w w') : Rep (fun _ => True) w' v d := h.mono k.size (fun g a hg => ⟨a,k.block g hg (fun z => z)⟩)
theorem VR.kept {k : Kd} {N : Nat} {w w' : World} {us vs : List Value} (h : VR k N w us vs) (q : Kept (fun _ => False) w w') : VR k N w' us vs := by
 obtain ⟨ds,ds',h1,h2,h3,h4⟩ := h.ex
 exact ⟨ds,ds',⟨h1.1,fun i c d hc hd => rt_kept (h1.2 i c d hc hd) q⟩,⟨h2.1,fun i c d hc hd => rt_kept (h2.2 i c d hc hd) q⟩,h3,h4⟩
theorem VS.kept {k : Kd} {N : Nat} {w w' : World} {u v : Value} (h : VS k N w u v) (q : Kept (fun _ => False) w w') : VS k N w' u v := by
 obtain ⟨p,c,p',c',n,l,l',h1,h2,h3,h4,h5⟩ := h.ex
 exact ⟨p,c,p',c',n,l,l',h1,h2,rt_kept h3 q,rt_kept h4 q,h5⟩
theorem VR.at {k : Kd} {N : Nat} {w : World} {us vs : List Value} (h : VR k N w us vs) {j : Nat} (hj : j < k.sz) {t : LT} (ht : k.pat[j]? = some t) {u v : Value} (hu : us[j]? = some u) (hv : vs[j]? = some v) : ∃ d d',Rep (fun _ => True) w u d ∧ Rep (fun _ => True) w v d' ∧ EqD t d d' ∧ SizeOf.sizeOf d ≤ N := by
 obtain ⟨ds,ds',h1,h2,h3,h4⟩ := h.ex
 have hl : ds.length = k.sz := by rw [h3.h1,Nat.one_mul]
 have hl' : ds'.length = k.sz := by rw [h3.h2,Nat.one_mul]
 have e1 := List.getElem?_eq_getElem (show j < ds.length by omega)
 have e2 := List.getElem?_eq_getElem (show j < ds'.length by omega)
 exact ⟨_,_,h1.2 j u _ hu e1,h2.2 j v _ hv e2,h3.h j t _ _ (by rw [Nat.mod_eq_of_lt hj]; exact ht) e1 e2,h4 _ (List.getElem_mem _)⟩
theorem VR.i {k : Kd} {N : Nat} {w : World} {us vs : List Value} (h : VR k N w us vs) (j : Nat) {u v : Value} (hu : us[j]? = some u) (hv : vs[j]? = some v) (hj : j < k.sz := by decide) (ht : k.pat[j]? = some .i := by rfl) : ∃ n,u = .int .i64 n ∧ v = .int .i64 n := by
 obtain ⟨d,d',h1,h2,h3,_⟩ := h.at hj ht hu hv
 cases h3
 exact ⟨_,rep_i h1,rep_i h2⟩
theorem VR.s {k : Kd} {N : Nat} {w : World} {us vs : List Value} (h : VR k N w us vs) (j : Nat) {u v : Value} (hu : us[j]? = some u) (hv : vs[j]? = some v) (hj : j < k.sz := by decide) (ht : k.pat[j]? = some .s := by rfl) : ∃ b : ByteArray,u = .string b ∧ v = .string b := by
 obtain ⟨d,d',h1,h2,h3,_⟩ := h.at hj ht hu hv
 cases h3
 exact ⟨_,rep_s h1,rep_s h2⟩
theorem VR.b {k : Kd} {N : Nat} {w : World} {us vs : List Value} (h : VR k N w us vs) (j : Nat) {u v : Value} (hu : us[j]? = some u) (hv : vs[j]? = some v) (hj : j < k.sz := by decide) (ht : k.pat[j]? = some .b := by rfl) : ∃ b : Bool,u = .bool b ∧ v = .bool b := by
 obtain ⟨d,d',h1,h2,h3,_⟩ := h.at hj ht hu hv
 cases h3
 exact ⟨_,rep_b h1,rep_b h2⟩
theorem VR.p {k : Kd} {N : Nat} {w : World} {us vs : List Value} (h : VR k N w us vs) (j : Nat) {u v : Value} (hu : us[j]? = some u) (hv : vs[j]? = some v) (hj : j < k.sz := by decide) (ht : k.pat[j]? = some .p := by rfl) : ∃ m n,u = .int .i64 m ∧ v = .int .i64 n := by
 obtain ⟨d,d',h1,h2,h3,_⟩ := h.at hj ht hu hv
 cases h3
 cases h1
 cases h2
 exact ⟨_,_,rfl,rfl⟩
theorem VR.sl {k k2 : Kd} {N : Nat} {w : World} {us vs : List Value} (h : VR k N w us vs) (j : Nat) {u v : Value} (hu : us[j]? = some u) (hv : vs[j]? = some v) (hj : j < k.sz := by decide) (ht : k.pat[j]? = some (.sl k2) := by rfl) : VS k2 N w u v := by
 obtain ⟨d,d',h1,h2,h3,h4⟩ := h.at hj ht hu hv
 cases h3 with
 | sl _ n l l' hn g1 g2 g =>
   obtain ⟨p,c,rfl⟩ := h1.slice
   obtain ⟨q,c',rfl⟩ := h2.slice
   exact ⟨p,c,q,c',n,l,l',rfl,rfl,h1,h2,⟨g1,g2,g⟩,hn,h4⟩
theorem VS.elem {k : Kd} {N : Nat} {w : World} {p q : Option Addr} {n c c' : Nat} (h : VS k N w (.slice p n c) (.slice q n c')) {i : Nat} (hi : i < n) : ∃ g o g' o' us vs,p = some ⟨g,o,none⟩ ∧ q = some ⟨g',o',none⟩ ∧ us.length = k.sz ∧ vs.length = k.sz ∧
 (∀ j x,us[j]? = some x → w.cell? ⟨g,o + i * k.sz + j,none⟩ = some x) ∧ (∀ j x,vs[j]? = some x → w.cell? ⟨g',o' + i * k.sz + j,none⟩ = some x) ∧ VR k (N - 1) w us vs := by
 obtain ⟨p0,c0,q0,c0',n0,l,l',e1,e2,h1,h2,h3,h4,h5⟩ := h.ex
 cases e1
 cases e2
 have hsz := k.pos
 have hb : i * k.sz + k.sz ≤ n * k.sz := by
  have := Nat.mul_le_mul_right k.sz (show i + 1 ≤ n from hi)
  rw [Nat.succ_mul] at this
  exact this
 have key : ∀ (p : Option Addr) (c : Nat) (l : List DT),l.length = n * k.sz → Rep (fun _ => True) w (.slice p n c) (.sl n l) → ∃ g o us,p = some ⟨g,o,none⟩ ∧ us.length = k.sz ∧ (∀ j x,us[j]? = some x → w.cell? ⟨g,o + i * k.sz + j,none⟩ = some x) ∧ RepL (fun _ => True) w us ((l.drop (i * k.sz)).take k.sz) := by
  intro p c l hl hr
  cases hr with
  | nil => omega
  | sl g o k' cap cs l hA hg hz hn hc hh =>
    have hcl : cs.length = n * k.sz := by rw [hn,hl]
    have h1 : ((cs.drop (i * k.sz)).take k.sz).length = k.sz := by rw [List.length_take,List.length_drop,hcl]; omega
    have h2 : ((l.drop (i * k.sz)).take k.sz).length = k.sz := by rw [List.length_take,List.length_drop,hl]; omega
    have hget : ∀ {α : Type} (L : List α) (j : Nat) (x : α),((L.drop (i * k.sz)).take k.sz)[j]? = some x → L[i * k.sz + j]? = some x := by
     intro α L j x q
     rw [List.getElem?_take] at q
     split at q
     · rw [List.getElem?_drop] at q; exact q
     · cases q
    refine ⟨g,o,(cs.drop (i * k.sz)).take k.sz,rfl,h1,fun j x hx => ?_,⟨by rw [h1,h2],fun j x d hx hd => hh _ x d (hget cs j x hx) (hget l j d hd)⟩⟩
    have := hc _ x (hget cs j x hx)
    rw [Nat.add_assoc]
    exact this
 obtain ⟨g,o,us,rfl,hu1,hu2,hu3⟩ := key p c l h3.h1 h1
 obtain ⟨g',o',vs,rfl,hv1,hv2,hv3⟩ := key q c' l' h3.h2 h2
 refine ⟨g,o,g',o',us,vs,rfl,rfl,hu1,hv1,hu2,hv2,⟨_,_,hu3,hv3,⟨?_, ?_,fun j t d d' ht hd hd' => ?_⟩,fun d hd => ?_⟩⟩
 · rw [List.length_take,List.length_drop,h3.h1,Nat.one_mul]; omega
 · rw [List.length_take,List.length_drop,h3.h2,Nat.one_mul]; omega
 · have hj : j < k.sz := by
    rcases Nat.lt_or_ge j k.sz with q | q
    · exact q
    · rw [List.getElem?_eq_none (by rw [List.length_take,List.length_drop,h3.h1]; omega)] at hd; cases hd
   rw [List.getElem?_take,if_pos hj,List.getElem?_drop] at hd hd'
   refine h3.h (i * k.sz + j) t d d' ?_ hd hd'
   rw [← ht]
   congr 1
   rw [Nat.mul_comm i k.sz,Nat.add_comm,Nat.add_mul_mod_self_left]
 · have hm : d ∈ l := List.mem_of_mem_drop (List.mem_of_mem_take hd)
   have := List.sizeOf_lt_of_mem hm
   simp only [DT.sl.sizeOf_spec] at h5
   omega
theorem row_load {w : World} {g o ty : Nat} {us : List Value} {d : TypeDesc} (h : ∀ j x,us[j]? = some x → w.cell? ⟨g,o + j,none⟩ = some x) (hu : Tryz.prog.underlying ty = some d) (hd : rowy d = true) (hs : (Tryz.prog.info? ty).map (·.size) = some us.length) : ∀ W,Kept (fun _ => False) w W → (loadVar ty ⟨g,o,none⟩).run Tryz.prog W = .ok (.agg us.toArray) W := fun W k => by
 cases d with
 | struct f => exact run_loadVar_mid (P := Tryz.prog) W g o ty us _ (fun j v q => k.cell (h j v q) (fun z => z)) hu rfl (by rw [hs])
 | _ => cases hd
def C33 (N : Nat) : Prop := ∀ (w : World) (u v : Value),VS .X N w u v → Calls Tryz.prog 33 #[u,v,.bool false] w fun e w' => e = .returned (.bool true) ∧ Kept (fun _ => False) w w'
def C16 (N : Nat) : Prop := ∀ (w : World) (u0 u1 u2 u3 u4 u5 u6 u7 u8 u9 u10 u11 v0 v1 v2 v3 v4 v5 v6 v7 v8 v9 v10 v11 : Value),VR .X N w [u0,u1,u2,u3,u4,u5,u6,u7,u8,u9,u10,u11] [v0,v1,v2,v3,v4,v5,v6,v7,v8,v9,v10,v11] → Calls Tryz.prog 16 #[.agg #[u0,u1,u2,u3,u4,u5,u6,u7,u8,u9,u10,u11],.agg #[v0,v1,v2,v3,v4,v5,v6,v7,v8,v9,v10,v11],.bool false] w fun e w' => e = .returned (.bool true) ∧ Kept (fun _ => False) w w'
def C15 (N : Nat) : Prop := ∀ (w : World) (u0 u1 u2 u3 v0 v1 v2 v3 : Value),VR .Q N w [u0,u1,u2,u3] [v0,v1,v2,v3] → Calls Tryz.prog 15 #[.agg #[u0,u1,u2,u3],.agg #[v0,v1,v2,v3],.bool false] w fun e w' => e = .returned (.bool true) ∧ Kept (fun _ => False) w w'
def C32 (N : Nat) : Prop := ∀ (w : World) (u0 u1 u2 u3 u4 u5 u6 v0 v1 v2 v3 v4 v5 v6 : Value),VR .Se N w [u0,u1,u2,u3,u4,u5,u6] [v0,v1,v2,v3,v4,v5,v6] → Calls Tryz.prog 32 #[.agg #[u0,u1,u2,u3,u4,u5,u6],.agg #[v0,v1,v2,v3,v4,v5,v6],.bool false] w fun e w' => e = .returned (.bool true) ∧ Kept (fun _ => False) w w'
theorem len12 {l : List Value} (h : l.length = 12) : ∃ u0 u1 u2 u3 u4 u5 u6 u7 u8 u9 u10 u11,l = [u0,u1,u2,u3,u4,u5,u6,u7,u8,u9,u10,u11] := by
 match l,h with
 | [u0,u1,u2,u3,u4,u5,u6,u7,u8,u9,u10,u11],_ => exact ⟨_,_,_,_,_,_,_,_,_,_,_,_,rfl⟩
theorem len4 {l : List Value} (h : l.length = 4) : ∃ u0 u1 u2 u3,l = [u0,u1,u2,u3] := by
 match l,h with
 | [u0,u1,u2,u3],_ => exact ⟨_,_,_,_,rfl⟩
theorem len7 {l : List Value} (h : l.length = 7) : ∃ u0 u1 u2 u3 u4 u5 u6,l = [u0,u1,u2,u3,u4,u5,u6] := by
 match l,h with
 | [u0,u1,u2,u3,u4,u5,u6],_ => exact ⟨_,_,_,_,_,_,_,rfl⟩
theorem len5 {l : List Value} (h : l.length = 5) : ∃ u0 u1 u2 u3 u4,l = [u0,u1,u2,u3,u4] := by
 match l,h with
 | [u0,u1,u2,u3,u4],_ => exact ⟨_,_,_,_,_,rfl⟩
theorem len14 {l : List Value} (h : l.length = 14) : ∃ u0 u1 u2 u3 u4 u5 u6 u7 u8 u9 u10 u11 u12 u13,l = [u0,u1,u2,u3,u4,u5,u6,u7,u8,u9,u10,u11,u12,u13] := by
 match l,h with
 | [u0,u1,u2,u3,u4,u5,u6,u7,u8,u9,u10,u11,u12,u13],_ => exact ⟨_,_,_,_,_,_,_,_,_,_,_,_,_,_,rfl⟩
set_option maxHeartbeats 4000000 in
theorem exprs_same (N : Nat) (H16 : C16 (N - 1)) : C33 N := by
 intro w u v hv
 have H0 := hv
 obtain ⟨p,c,q,c',n,l,l',rfl,rfl,_,_,hrow,hn,_⟩ := hv.ex
 have HV : Hid (VS .X N w (.slice p n c) (.slice q n c')) := H0
 have HC : Hid (C16 (N - 1)) := H16
 have hnb : (n : Int) ≤ 9223372036854775807 := by omega
 clear hv H0 hrow hn H16
 go_enter Tryz.func33,Tryz.ntmps33
 go_wp2_with fail
 go_loopg [7] n (fun (gk : Nat) (v7 : Value) (wr : World) => ∃ i : Nat,v7 = .int .i64 (i : Int) ∧ Hid (i + gk = n) ∧ Hid (Kept (fun _ => False) w wr))
 case atStart => exact ⟨0,rfl,Nat.zero_add _,Kept.refl _ _⟩
 case round =>
  obtain ⟨i,rfl,HI,HK⟩ := hrel
  by_cases hi : i < n
  · have hii : (i : Int) < (n : Int) := by omega
    obtain ⟨gk,rfl⟩ : ∃ g,gk = g + 1 := ⟨gk - 1,by have := HI.out; omega⟩
    obtain ⟨g,o,g',o',us,vs,rfl,rfl,hu,hv,hcu,hcv,hr⟩ := (HV.out.kept HK.out).elem hi
    obtain ⟨u0,u1,u2,u3,u4,u5,u6,u7,u8,u9,u10,u11,rfl⟩ := len12 hu
    obtain ⟨v0,v1,v2,v3,v4,v5,v6,v7,v8,v9,v10,v11,rfl⟩ := len12 hv
    have LU : Hid (∀ W,Kept (fun _ => False) wr W → (loadVar 27 ⟨g,o + i * 12,none⟩).run Tryz.prog W = .ok (.agg #[u0,u1,u2,u3,u4,u5,u6,u7,u8,u9,u10,u11]) W) := row_load hcu Tryz.underlying27 rfl (by kernel_rfl)
    have LV : Hid (∀ W,Kept (fun _ => False) wr W → (loadVar 27 ⟨g',o' + i * 12,none⟩).run Tryz.prog W = .ok (.agg #[v0,v1,v2,v3,v4,v5,v6,v7,v8,v9,v10,v11]) W) := row_load hcv Tryz.underlying27 rfl (by kernel_rfl)
    have HR : Hid (VR .X (N - 1) wr [u0,u1,u2,u3,u4,u5,u6,u7,u8,u9,u10,u11] [v0,v1,v2,v3,v4,v5,v6,v7,v8,v9,v10,v11]) := hr
    clear hu hv hcu hcv hr hi
    go_wp2_with fail
    have HS : Hid (Kept (fun _ => False) wr wr.drew) := (Kept.refl _ wr).drew
    refine wp_only ?_
    refine wp_region_held_drew (S := Kept (fun _ => False) wr) (by kernel_rfl) HS.out (fun hHeld => ?_)
    clear hHeld
    simp only [List.size_toArray,List.length_cons,List.length_nil,Nat.zero_add,Nat.reduceAdd,Array.replicate]
    refine tH 0 (.slice (some ⟨g,o,none⟩) n c) HS.out ?_ ?_
    · intro W h; first | rfl | go_simp | (go_simp; rfl)
    try simp only [List.getElem_toArray,List.getElem_cons_succ,List.getElem_cons_zero,Act.put,sI,sS,sZ]
    refine tH 1 (.int .i64 (i : Int)) HS.out ?_ ?_
    · intro W h; first | rfl | go_simp | (go_simp; rfl)
    try simp only [List.getElem_toArray,List.getElem_cons_succ,List.getElem_cons_zero,Act.put,sI,sS,sZ]
    refine tH 2 (.pointer (some ⟨g,o + i * 12,none⟩)) HS.out ?_ ?_
    · intro W h; first | rfl | go_simp | (go_simp; rfl)
    try simp only [List.getElem_toArray,List.getElem_cons_succ,List.getElem_cons_zero,Act.put,sI,sS,sZ]
    refine tH 3 (.agg #[u0,u1,u2,u3,u4,u5,u6,u7,u8,u9,u10,u11]) HS.out ?_ ?_
    · exact fun W h => ex_load (LU.out W h)
    try simp only [List.getElem_toArray,List.getElem_cons_succ,List.getElem_cons_zero,Act.put,sI,sS,sZ]
    refine tH 4 (.slice (some ⟨g',o',none⟩) n c') HS.out ?_ ?_
    · intro W h; first | rfl | go_simp | (go_simp; rfl)
    try simp only [List.getElem_toArray,List.getElem_cons_succ,List.getElem_cons_zero,Act.put,sI,sS,sZ]
    refine tH 5 (.int .i64 (i : Int)) HS.out ?_ ?_
    · intro W h; first | rfl | go_simp | (go_simp; rfl)
    try simp only [List.getElem_toArray,List.getElem_cons_succ,List.getElem_cons_zero,Act.put,sI,sS,sZ]
    refine tH 6 (.pointer (some ⟨g',o' + i * 12,none⟩)) HS.out ?_ ?_
    · intro W h; first | rfl | go_simp | (go_simp; rfl)
    try simp only [List.getElem_toArray,List.getElem_cons_succ,List.getElem_cons_zero,Act.put,sI,sS,sZ]
    refine tH 7 (.agg #[v0,v1,v2,v3,v4,v5,v6,v7,v8,v9,v10,v11]) HS.out ?_ ?_
    · exact fun W h => ex_load (LV.out W h)
    try simp only [List.getElem_toArray,List.getElem_cons_succ,List.getElem_cons_zero,Act.put,sI,sS,sZ]
    refine tH 8 (.bool false) HS.out ?_ ?_
    · intro W h; first | rfl | go_simp | (go_simp; rfl)
    try simp only [List.getElem_toArray,List.getElem_cons_succ,List.getElem_cons_zero,Act.put,sI,sS,sZ]
    refine wpAnyH_ready (rs := [9]) (by kernel_rfl) (by simp) ?_
    refine AllReadyH.cons rfl (fun K hK => ?_) AllReadyH.nil
    rw [if_pos (by rfl)]
    go_wp2_with fail
    refine Calls.mono (HC.out _ u0 u1 u2 u3 u4 u5 u6 u7 u8 u9 u10 u11 v0 v1 v2 v3 v4 v5 v6 v7 v8 v9 v10 v11 (HR.out.kept HS.out)) ?_; rintro e w2 ⟨rfl,k2⟩
    have HS2 : Hid (Kept (fun _ => False) wr w2) := HS.out.trans k2 (fun i q => .inl q)
    clear HS k2
    have HS : Hid (Kept (fun _ => False) wr w2) := HS2.out
    clear HS2
    go_wp2_with fail
    refine hK.out _ _ HS.out (fun _ => ?_)
    clear hK K
    try simp only [List.getElem_toArray,List.getElem_cons_succ,List.getElem_cons_zero,Act.put,sI,sS,sZ]
    refine tH 10 (.bool false) HS.out ?_ ?_
    · intro W h; first | rfl | go_simp | (go_simp; rfl)
    try simp only [List.getElem_toArray,List.getElem_cons_succ,List.getElem_cons_zero,Act.put,sI,sS,sZ]
    refine wpAnyH_done (by kernel_rfl) ?_ _
    unfold OnlyN
    go_wp2_with fail
    go_roundg gk
    case measure => omega
    case rel => exact ⟨i + 1,by simp,by show i + 1 + gk = n; have := HI.out; omega,HK.out.trans HS.out (fun i q => .inl q)⟩
  · have hii : ¬ (i : Int) < (n : Int) := by omega
    go_wp2_with fail
    go_ret
    exact ⟨rfl,HK.out⟩
theorem op_al {o : Oper} {a : Act} {w : World} {K : Act → World → Prop} {Q : Exit → Act → World → Prop} {ty : TypeId} {z : Array Value} (hr : ∀ w : World,(Instr.alloc ty true (.tuple #[])).run Tryz.prog w = .ok (ptr w.heap.size) (w.alloc (.cells z ty)))
 (h : ∀ W b,Kept (fun _ => False) w W → W.heap[b]? = some (.cells z ty (0,0)) → w.heap.size ≤ b → K (a.put o.dst (ptr b)) W) (ho : o.op = .alloc ty := by rfl) : Oper.wp Tryz.prog o a w K Q := by
 unfold Oper.wp execOp
 simp only [ho,Sem.run_bind,hr,Result.andThen_ok]
 exact h _ _ ((Kept.refl _ w).alloc _) (heap_alloc_new w _) (Nat.le_refl _)
theorem op_st {o : Oper} {a : Act} {w : World} {K : Act → World → Prop} {Q : Exit → Act → World → Prop} {ty : TypeId} {x y : Operand} {b : Nat} {old cs : Array Value} (hb : w.heap[b]? = some (.cells old ty (0,0))) (hs : (Tryz.prog.info? ty).map (·.size) = some cs.size) (hz : old.size = cs.size) (h1 : cs.toList.all (·.oneCell') = true)
 (h : ∀ W,Kept (On b) w W → W.heap[b]? = some (.cells cs ty (0,0)) → K (a.put o.dst undef) W) (ho : o.op = .store ty x y := by rfl) (hx : a.eval x = ptr b := by rfl) (hy : a.eval y = .agg cs := by rfl) : Oper.wp Tryz.prog o a w K Q := by
 obtain ⟨W,hr,h2,h3,_⟩ := row_store w b ty ty old cs hb hs hz h1
 unfold Oper.wp execOp
 simp only [ho,hx,hy,Instr.storeAt,Instr.sureAddr,Sem.run_bind,Sem.run_pure,Result.andThen_ok,hr]
 exact h W h3 h2
theorem bx44 (c0 c1 c2 c3 : Value) (w : World) : (Instr.box 44 (.agg #[c0,c1,c2,c3])).run Tryz.prog w = .ok (ptr w.heap.size) (w.alloc (.cells #[c0,c1,c2,c3] 44)) := by
 simp [go_sem]
theorem bx53 (c0 c1 c2 c3 c4 c5 c6 : Value) (w : World) : (Instr.box 53 (.agg #[c0,c1,c2,c3,c4,c5,c6])).run Tryz.prog w = .ok (ptr w.heap.size) (w.alloc (.cells #[c0,c1,c2,c3,c4,c5,c6] 53)) := by
 simp [go_sem]
theorem VR.itx {N : Nat} {w : World} {a0 a1 a2 a3 a4 a5 a6 a7 a8 a9 a10 a11 a12 a13 e0 e1 e2 e3 e4 e5 e6 e7 e8 e9 e10 e11 e12 e13 : Value} (h : VR .It N w [a0,a1,a2,a3,a4,a5,a6,a7,a8,a9,a10,a11,a12,a13] [e0,e1,e2,e3,e4,e5,e6,e7,e8,e9,e10,e11,e12,e13]) :
 VR .X N w [a1,a2,a3,a4,a5,a6,a7,a8,a9,a10,a11,a12] [e1,e2,e3,e4,e5,e6,e7,e8,e9,e10,e11,e12] := by
 obtain ⟨ds,ds',h1,h2,h3,h4⟩ := h.ex
 have key : ∀ (us : List Value) (ds : List DT),us.length = 14 → RepL (fun _ => True) w us ds → RepL (fun _ => True) w ((us.drop 1).take 12) ((ds.drop 1).take 12) := by
  intro us ds hl hr
  refine ⟨by rw [List.length_take,List.length_drop,List.length_take,List.length_drop,hr.1],fun i c d hc hd => ?_⟩
  rw [List.getElem?_take] at hc hd
  split at hc
  · rename_i hi
    rw [if_pos hi] at hd
    rw [List.getElem?_drop] at hc hd
    exact hr.2 _ c d hc hd
  · cases hc
 refine ⟨(ds.drop 1).take 12,(ds'.drop 1).take 12,key _ ds rfl h1,key _ ds' rfl h2,⟨?_, ?_,fun j t d d' ht hd hd' => ?_⟩,fun d hd => h4 d (List.mem_of_mem_drop (List.mem_of_mem_take hd))⟩
 · rw [List.length_take,List.length_drop,h3.h1]; rfl
 · rw [List.length_take,List.length_drop,h3.h2]; rfl
 · rw [List.getElem?_take] at hd hd'
   split at hd
   · rename_i hj
     rw [if_pos hj] at hd'
     rw [List.getElem?_drop] at hd hd'
     refine h3.h (1 + j) t d d' ?_ hd hd'
     rw [show j % Kd.X.sz = j from Nat.mod_eq_of_lt hj] at ht
     rw [show (1 + j) % Kd.It.sz = 1 + j from Nat.mod_eq_of_lt (by show 1 + j < 14; omega), ← ht]
     have : ∀ i < 12,Kd.It.pat[1 + i]? = Kd.X.pat[i]? := by decide
     exact this j hj
   · cases hd
theorem rep_one1 {A : Nat → Prop} {w : World} {v : Value} {d : DT} (h : Rep A w v d) : v.oneCell' = true := by cases h <;> rfl
theorem repl_one {A : Nat → Prop} {w : World} {us : List Value} {ds : List DT} (h : RepL A w us ds) : us.all (·.oneCell') = true := by
 rw [List.all_eq_true]
 intro x hx
 obtain ⟨i,hi⟩ := List.getElem?_of_mem hx
 have hl : i < ds.length := by
  rw [← h.1]
  rcases Nat.lt_or_ge i us.length with q | q
  · exact q
  · rw [List.getElem?_eq_none q] at hi; cases hi
 exact rep_one1 (h.2 i x _ hi (List.getElem?_eq_getElem hl))
theorem VR.one1 {k : Kd} {N : Nat} {w : World} {us vs : List Value} (h : VR k N w us vs) : us.all (·.oneCell') = true := by
 obtain ⟨ds,ds',h1,h2,_⟩ := h.ex
 exact repl_one h1
theorem VR.one2 {k : Kd} {N : Nat} {w : World} {us vs : List Value} (h : VR k N w us vs) : vs.all (·.oneCell') = true := by
 obtain ⟨ds,ds',h1,h2,_⟩ := h.ex
 exact repl_one h2
end Go.Proofs.YtlgkghebemfpjaaGreatDoor.Pa
