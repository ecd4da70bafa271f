/- An operation is issued (issue): what goes into flight, read off the program by the walk. Conditions: the machine lies in memory, the operation is one. -/
import Derived.Test.YtldfjlepbbmhnaaDoorQf
namespace Go.Proofs.YtldfjlepbbmhnaaDoor.Pp
open Go.ChangeShapes Go.WideShapes Go.ChangeAt Go.RowKit
open _root_.Go.Proofs.YtldfjlepbbmhnaaDoor.Op _root_.Go.Proofs.YtldfjlepbbmhnaaDoor.So _root_.Go.Proofs.YtldfjlepbbmhnaaDoor.Bu
open _root_.Go.Proofs.YtldfjlepbbmhnaaDoor.Tb (Tab TabAt Bnds)
set_option maxRecDepth 20000

section
variable {W : World} {t : Tab} {bs : List Bn} {H : Hx} {S : PM}
theorem km_put {V : World} {H' : Hx} {S' : PM} (m : Mch V t bs H' S') (e : H'.mb = H.mb) (hr : S'.r = S.r) (hs : S'.s = S.s) : KM V H.mb t S := by
  have k := m.c.km
  rw [e] at k
  exact ⟨k.lt, fun j hj => by rw [← hr]; exact k.r j hj, k.d, by rw [← hs]; exact k.s⟩
set_option maxHeartbeats 4000000 in
theorem issue_store (o : O) (la : Nat) (h : Mch W t bs H S) (ho : OkM o) (h0 : o.op = 16) (hl : (S.f (la % 8)).length ≤ 1000000000) : Calls Tryd.prog 63 #[ptr H.mb, o.val, .int .i64 (la : Int)] W fun e w' => IsP W t bs H (putF S la ⟨1, celI S o, S.r o.b.toNat⟩) e w' := by
  have b0 := ho.ok.b0
  have b1 := ho.regs.2.2
  have HC : Hid (∀ V, Mch V t bs H S → Calls Tryd.prog 81 #[ptr H.mb, o.val] V fun e w' => e = .returned (.int .u8 (celI S o)) ∧ Below V.heap.size V w') := fun V hV => cellOf_any o hV.c ho
  have HP : Hid (∀ V, Mch V t bs H S → Calls Tryd.prog 80 #[.pointer (some ⟨H.mb, 304, none⟩), .int .i64 (la : Int), .agg #[.int .u8 1, .int .u8 (celI S o), .int .i64 (S.r o.b.toNat)]] V fun e w' => e = .returned (.tuple #[]) ∧ ∃ H', Mch w' t bs H' (putF S la ⟨1, celI S o, S.r o.b.toNat⟩) ∧ Tn V H w' H') := fun V hV => put_any la ⟨1, celI S o, S.r o.b.toNat⟩ hV hl
  have HX : Hid _ := box_up h o
  have hb0 : (o.op == 0) = false := by rw [h0]; rfl
  have hb1 : (o.op == 17) = false := by rw [h0]; rfl
  have hb2 : (o.op == 16) = true := by rw [h0]; rfl
  clear h ho h0 hl
  go_enter Tryd.func63, Tryd.ntmps63
  go_upto_region 12 with fail
  generalize (W.alloc (.cells o.cells 55)) = X at *
  have HS : Hid (∀ V, Below X.heap.size X V → Mch V t bs H S ∧ Tn W H V H ∧ KM V H.mb t S ∧ At V W.heap.size o.cells) := fun V hV => ⟨HX.out.1.up hV, HX.out.2.1.up hV, (HX.out.1.up hV).c.km, HX.out.2.2.1.below hV HX.out.2.2.1.lt⟩
  refine wp_region_held_drew (S := fun W' => KM W' H.mb t S ∧ At W' W.heap.size o.cells) (by kernel_rfl) (HS.out _ (drew_up _)).2.2 (fun hHeld => ?_)
  refine wpAnyH_take (i := 0) (v := ptr H.mb) rfl (by kernel_rfl) (by kernel_rfl) (by kernel_rfl) (fun _ _ _ h => h) (Or.inl ⟨by rfl, fun w' hSw => by (go_simp)⟩) hHeld ?_
  simp only [Act.put, List.setIfInBounds_toArray, List.set_cons_zero, List.set_cons_succ, List.getElem_cons_zero, List.getElem_toArray]
  refine wpAnyH_take (i := 1) (v := ptr H.mb) rfl (by kernel_rfl) (by kernel_rfl) (by kernel_rfl) (fun _ _ _ h => h) (Or.inl ⟨by rfl, fun w' hSw => by (go_simp)⟩) hHeld ?_
  simp only [Act.put, List.setIfInBounds_toArray, List.set_cons_zero, List.set_cons_succ, List.getElem_cons_zero, List.getElem_cons_succ, List.getElem_toArray]
  refine wpAnyH_take (i := 2) (v := .pointer (some ⟨H.mb, 304, none⟩)) rfl (by kernel_rfl) (by kernel_rfl) (by kernel_rfl) (fun _ _ _ h => h) (Or.inl ⟨by rfl, fun w' hSw => by (go_simp)⟩) hHeld ?_
  simp only [Act.put, List.setIfInBounds_toArray, List.set_cons_zero, List.set_cons_succ, List.getElem_cons_zero, List.getElem_cons_succ, List.getElem_toArray]
  refine wpAnyH_take (i := 3) (v := .int .i64 (la : Int)) rfl (by kernel_rfl) (by kernel_rfl) (by kernel_rfl) (fun _ _ _ h => h) (Or.inl ⟨by rfl, fun w' hSw => by (go_simp)⟩) hHeld ?_
  simp only [Act.put, List.setIfInBounds_toArray, List.set_cons_zero, List.set_cons_succ, List.getElem_cons_zero, List.getElem_cons_succ, List.getElem_toArray]
  refine wpAnyH_take (i := 4) (v := ptr H.mb) rfl (by kernel_rfl) (by kernel_rfl) (by kernel_rfl) (fun _ _ _ h => h) (Or.inl ⟨by rfl, fun w' hSw => by (go_simp)⟩) hHeld ?_
  simp only [Act.put, List.setIfInBounds_toArray, List.set_cons_zero, List.set_cons_succ, List.getElem_cons_zero, List.getElem_cons_succ, List.getElem_toArray]
  refine wpAnyH_take (i := 5) (v := o.val) rfl (by kernel_rfl) (by kernel_rfl) (by kernel_rfl) (fun _ _ _ h => h) (Or.inl ⟨by rfl, fun w' hSw => by (have y0 := hSw.2.c 0 _ rfl; have y1 := hSw.2.c 1 _ rfl; have y2 := hSw.2.c 2 _ rfl; have y3 := hSw.2.c 3 _ rfl; have y4 := hSw.2.c 4 _ rfl; have yl := hSw.2.lt; go_simp)⟩) hHeld ?_
  simp only [Act.put, List.setIfInBounds_toArray, List.set_cons_zero, List.set_cons_succ, List.getElem_cons_zero, List.getElem_cons_succ, List.getElem_toArray]
  refine wpAnyH_take (i := 7) (v := ptr H.mb) rfl (by kernel_rfl) (by kernel_rfl) (by kernel_rfl) (fun _ _ _ h => h) (Or.inl ⟨by rfl, fun w' hSw => by (go_simp)⟩) hHeld ?_
  simp only [Act.put, List.setIfInBounds_toArray, List.set_cons_zero, List.set_cons_succ, List.getElem_cons_zero, List.getElem_cons_succ, List.getElem_toArray]
  refine wpAnyH_take (i := 8) (v := .pointer (some ⟨W.heap.size, 3, none⟩)) rfl (by kernel_rfl) (by kernel_rfl) (by kernel_rfl) (fun _ _ _ h => h) (Or.inl ⟨by rfl, fun w' hSw => by (go_simp)⟩) hHeld ?_
  simp only [Act.put, List.setIfInBounds_toArray, List.set_cons_zero, List.set_cons_succ, List.getElem_cons_zero, List.getElem_cons_succ, List.getElem_toArray]
  refine wpAnyH_take (i := 9) (v := .int .u8 o.b) rfl (by kernel_rfl) (by kernel_rfl) (by kernel_rfl) (fun _ _ _ h => h) (Or.inl ⟨by rfl, fun w' hSw => by (have y0 := hSw.2.c 0 _ rfl; have y1 := hSw.2.c 1 _ rfl; have y2 := hSw.2.c 2 _ rfl; have y3 := hSw.2.c 3 _ rfl; have y4 := hSw.2.c 4 _ rfl; have yl := hSw.2.lt; go_simp)⟩) hHeld ?_
  simp only [Act.put, List.setIfInBounds_toArray, List.set_cons_zero, List.set_cons_succ, List.getElem_cons_zero, List.getElem_cons_succ, List.getElem_toArray]
  refine wpAnyH_take (i := 10) (v := ptr H.mb) rfl (by kernel_rfl) (by kernel_rfl) (by kernel_rfl) (fun _ _ _ h => h) (Or.inl ⟨by rfl, fun w' hSw => by (go_simp)⟩) hHeld ?_
  simp only [Act.put, List.setIfInBounds_toArray, List.set_cons_zero, List.set_cons_succ, List.getElem_cons_zero, List.getElem_cons_succ, List.getElem_toArray]
  refine wpAnyH_take (i := 11) (v := .pointer (some ⟨H.mb, 14, none⟩)) rfl (by kernel_rfl) (by kernel_rfl) (by kernel_rfl) (fun _ _ _ h => h) (Or.inl ⟨by rfl, fun w' hSw => by (go_simp)⟩) hHeld ?_
  simp only [Act.put, List.setIfInBounds_toArray, List.set_cons_zero, List.set_cons_succ, List.getElem_cons_zero, List.getElem_cons_succ, List.getElem_toArray]
  refine wpAnyH_take (i := 12) (v := .pointer (some ⟨H.mb, 14 + o.b.toNat, none⟩)) rfl (by kernel_rfl) (by kernel_rfl) (by kernel_rfl) (fun _ _ _ h => h) (Or.inl ⟨by rfl, fun w' hSw => by (go_simp)⟩) hHeld ?_
  simp only [Act.put, List.setIfInBounds_toArray, List.set_cons_zero, List.set_cons_succ, List.getElem_cons_zero, List.getElem_cons_succ, List.getElem_toArray]
  refine wpAnyH_take (i := 13) (v := .int .i64 (S.r o.b.toNat)) rfl (by kernel_rfl) (by kernel_rfl) (by kernel_rfl) (fun _ _ _ h => h) (Or.inl ⟨by rfl, fun w' hSw => by (have q := hSw.1.r o.b.toNat (by omega); have ql := hSw.1.lt; go_simp)⟩) hHeld ?_
  simp only [Act.put, List.setIfInBounds_toArray, List.set_cons_zero, List.set_cons_succ, List.getElem_cons_zero, List.getElem_cons_succ, List.getElem_toArray]
  refine wpAnyH_ready (rs := [6]) (by kernel_rfl) (by simp) ?_
  refine AllReadyH.cons rfl (fun K hK => ?_) AllReadyH.nil
  go_simp
  refine Calls.mono (HC.out X.drew (HS.out _ (drew_up X)).1) ?_
  rintro e w5 ⟨rfl, h5⟩
  have hs5 := HS.out w5 ((drew_up X).trans (h5.mono (Nat.le_refl _)))
  refine hK.out _ _ hs5.2.2 (fun hHeld => ?_)
  clear hK K
  refine wpAnyH_take (i := 14) (v := .agg #[.int .u8 1, .int .u8 (celI S o), .int .i64 (S.r o.b.toNat)]) rfl (by kernel_rfl) (by kernel_rfl) (by kernel_rfl) (fun _ _ _ h => h) (Or.inl ⟨by rfl, fun w' hSw => by (go_simp)⟩) hHeld ?_
  simp only [Act.put, List.setIfInBounds_toArray, List.set_cons_zero, List.set_cons_succ, List.getElem_cons_zero, List.getElem_cons_succ, List.getElem_toArray]
  refine wpAnyH_ready (rs := [15]) (by kernel_rfl) (by simp) ?_
  refine AllReadyH.cons rfl (fun K hK => ?_) AllReadyH.nil
  go_simp
  refine Calls.mono (HP.out w5 hs5.1) ?_
  rintro e w7 ⟨rfl, H', m7, t7⟩
  refine hK.out _ _ ⟨km_put m7 t7.q rfl rfl, At.frb hs5.2.2.2 t7.f HX.out.2.2.2⟩ (fun hHeld => ?_)
  clear hK K
  have HY : Hid (∃ H', Mch w7 t bs H' (putF S la ⟨1, celI S o, S.r o.b.toNat⟩) ∧ Tn W H w7 H') := ⟨H', m7, hs5.2.1.trans t7⟩
  clear m7 t7 hs5 h5
  refine wpAnyH_done (by kernel_rfl) ?_ _
  clear hHeld
  go_wp2_with fail
  go_end0
  exact ⟨rfl, HY.out⟩
set_option maxHeartbeats 4000000 in
theorem issue_count (o : O) (la : Nat) (h : Mch W t bs H S) (ho : OkM o) (h0 : o.op = 21) (hi : ∀ k, I64 (S.r k)) : Calls Tryd.prog 63 #[ptr H.mb, o.val, .int .i64 (la : Int)] W fun e w' => IsP W t bs H { S with c := lessI (S.r o.a.toNat) o.im } e w' := by
  have a0 := ho.ok.a0
  have a1 := ho.regs.2.1
  have HL : Hid (∀ V, Calls Tryd.prog 82 #[.int .i64 (S.r o.a.toNat), .int .i64 o.im] V fun e w' => e = .returned (.int .u64 (lessI (S.r o.a.toNat) o.im)) ∧ w' = V) := fun V => less_any _ _ V (hi _) ⟨ho.ok.i0, ho.ok.i1⟩
  have HX : Hid _ := box_up h o
  have hb0 : (o.op == 0) = false := by rw [h0]; rfl
  have hb1 : (o.op == 17) = false := by rw [h0]; rfl
  have hb2 : (o.op == 16) = false := by rw [h0]; rfl
  have hb3 : (o.op == 21) = true := by rw [h0]; rfl
  clear h ho h0 hi
  go_enter Tryd.func63, Tryd.ntmps63
  go_upto_region 13 with fail
  generalize (W.alloc (.cells o.cells 55)) = X at *
  have HS : Hid (∀ V, Below X.heap.size X V → Mch V t bs H S ∧ Tn W H V H ∧ KM V H.mb t S ∧ At V W.heap.size o.cells) := fun V hV => ⟨HX.out.1.up hV, HX.out.2.1.up hV, (HX.out.1.up hV).c.km, HX.out.2.2.1.below hV HX.out.2.2.1.lt⟩
  refine wp_region_held_drew (S := fun W' => KM W' H.mb t S ∧ At W' W.heap.size o.cells) (by kernel_rfl) (HS.out _ (drew_up _)).2.2 (fun hHeld => ?_)
  refine wpAnyH_take (i := 0) (v := ptr H.mb) rfl (by kernel_rfl) (by kernel_rfl) (by kernel_rfl) (fun _ _ _ h => h) (Or.inl ⟨by rfl, fun w' hSw => by (go_simp)⟩) hHeld ?_
  simp only [Act.put, List.setIfInBounds_toArray, List.set_cons_zero, List.set_cons_succ, List.getElem_cons_zero, List.getElem_toArray]
  refine wpAnyH_take (i := 1) (v := ptr H.mb) rfl (by kernel_rfl) (by kernel_rfl) (by kernel_rfl) (fun _ _ _ h => h) (Or.inl ⟨by rfl, fun w' hSw => by (go_simp)⟩) hHeld ?_
  simp only [Act.put, List.setIfInBounds_toArray, List.set_cons_zero, List.set_cons_succ, List.getElem_cons_zero, List.getElem_cons_succ, List.getElem_toArray]
  refine wpAnyH_take (i := 2) (v := .pointer (some ⟨W.heap.size, 2, none⟩)) rfl (by kernel_rfl) (by kernel_rfl) (by kernel_rfl) (fun _ _ _ h => h) (Or.inl ⟨by rfl, fun w' hSw => by (go_simp)⟩) hHeld ?_
  simp only [Act.put, List.setIfInBounds_toArray, List.set_cons_zero, List.set_cons_succ, List.getElem_cons_zero, List.getElem_cons_succ, List.getElem_toArray]
  refine wpAnyH_take (i := 3) (v := .int .u8 o.a) rfl (by kernel_rfl) (by kernel_rfl) (by kernel_rfl) (fun _ _ _ h => h) (Or.inl ⟨by rfl, fun w' hSw => by (have y0 := hSw.2.c 0 _ rfl; have y1 := hSw.2.c 1 _ rfl; have y2 := hSw.2.c 2 _ rfl; have y3 := hSw.2.c 3 _ rfl; have y4 := hSw.2.c 4 _ rfl; have yl := hSw.2.lt; go_simp)⟩) hHeld ?_
  simp only [Act.put, List.setIfInBounds_toArray, List.set_cons_zero, List.set_cons_succ, List.getElem_cons_zero, List.getElem_cons_succ, List.getElem_toArray]
  refine wpAnyH_take (i := 4) (v := ptr H.mb) rfl (by kernel_rfl) (by kernel_rfl) (by kernel_rfl) (fun _ _ _ h => h) (Or.inl ⟨by rfl, fun w' hSw => by (go_simp)⟩) hHeld ?_
  simp only [Act.put, List.setIfInBounds_toArray, List.set_cons_zero, List.set_cons_succ, List.getElem_cons_zero, List.getElem_cons_succ, List.getElem_toArray]
  refine wpAnyH_take (i := 5) (v := .pointer (some ⟨H.mb, 14, none⟩)) rfl (by kernel_rfl) (by kernel_rfl) (by kernel_rfl) (fun _ _ _ h => h) (Or.inl ⟨by rfl, fun w' hSw => by (go_simp)⟩) hHeld ?_
  simp only [Act.put, List.setIfInBounds_toArray, List.set_cons_zero, List.set_cons_succ, List.getElem_cons_zero, List.getElem_cons_succ, List.getElem_toArray]
  refine wpAnyH_take (i := 6) (v := .pointer (some ⟨H.mb, 14 + o.a.toNat, none⟩)) rfl (by kernel_rfl) (by kernel_rfl) (by kernel_rfl) (fun _ _ _ h => h) (Or.inl ⟨by rfl, fun w' hSw => by (go_simp)⟩) hHeld ?_
  simp only [Act.put, List.setIfInBounds_toArray, List.set_cons_zero, List.set_cons_succ, List.getElem_cons_zero, List.getElem_cons_succ, List.getElem_toArray]
  refine wpAnyH_take (i := 7) (v := .int .i64 (S.r o.a.toNat)) rfl (by kernel_rfl) (by kernel_rfl) (by kernel_rfl) (fun _ _ _ h => h) (Or.inl ⟨by rfl, fun w' hSw => by (have q := hSw.1.r o.a.toNat (by omega); have ql := hSw.1.lt; go_simp)⟩) hHeld ?_
  simp only [Act.put, List.setIfInBounds_toArray, List.set_cons_zero, List.set_cons_succ, List.getElem_cons_zero, List.getElem_cons_succ, List.getElem_toArray]
  refine wpAnyH_take (i := 8) (v := .pointer (some ⟨W.heap.size, 4, none⟩)) rfl (by kernel_rfl) (by kernel_rfl) (by kernel_rfl) (fun _ _ _ h => h) (Or.inl ⟨by rfl, fun w' hSw => by (go_simp)⟩) hHeld ?_
  simp only [Act.put, List.setIfInBounds_toArray, List.set_cons_zero, List.set_cons_succ, List.getElem_cons_zero, List.getElem_cons_succ, List.getElem_toArray]
  refine wpAnyH_take (i := 9) (v := .int .i64 o.im) rfl (by kernel_rfl) (by kernel_rfl) (by kernel_rfl) (fun _ _ _ h => h) (Or.inl ⟨by rfl, fun w' hSw => by (have y0 := hSw.2.c 0 _ rfl; have y1 := hSw.2.c 1 _ rfl; have y2 := hSw.2.c 2 _ rfl; have y3 := hSw.2.c 3 _ rfl; have y4 := hSw.2.c 4 _ rfl; have yl := hSw.2.lt; go_simp)⟩) hHeld ?_
  simp only [Act.put, List.setIfInBounds_toArray, List.set_cons_zero, List.set_cons_succ, List.getElem_cons_zero, List.getElem_cons_succ, List.getElem_toArray]
  refine wpAnyH_ready (rs := [10]) (by kernel_rfl) (by simp) ?_
  refine AllReadyH.cons rfl (fun K hK => ?_) AllReadyH.nil
  go_simp
  refine Calls.mono (HL.out X.drew) ?_
  rintro e w5 ⟨rfl, rfl⟩
  have hs5 := HS.out X.drew (drew_up X)
  refine hK.out _ _ hs5.2.2 (fun hHeld => ?_)
  clear hK K
  refine wpAnyH_take (i := 11) (v := ptr H.mb) rfl (by kernel_rfl) (by kernel_rfl) (by kernel_rfl) (fun _ _ _ h => h) (Or.inl ⟨by rfl, fun w' hSw => by (go_simp)⟩) hHeld ?_
  simp only [Act.put, List.setIfInBounds_toArray, List.set_cons_zero, List.set_cons_succ, List.getElem_cons_zero, List.getElem_cons_succ, List.getElem_toArray]
  refine wpAnyH_take (i := 12) (v := .pointer (some ⟨H.mb, 303, none⟩)) rfl (by kernel_rfl) (by kernel_rfl) (by kernel_rfl) (fun _ _ _ h => h) (Or.inl ⟨by rfl, fun w' hSw => by (go_simp)⟩) hHeld ?_
  simp only [Act.put, List.setIfInBounds_toArray, List.set_cons_zero, List.set_cons_succ, List.getElem_cons_zero, List.getElem_cons_succ, List.getElem_toArray]
  have c0 := hs5.1.c.c
  have cz := hs5.1.c.fz
  have cl := hs5.1.c.lt
  refine wpAnyH_ready (rs := [13]) (by kernel_rfl) (by simp) ?_
  refine AllReadyH.cons rfl (fun K hK => ?_) AllReadyH.nil
  go_simp
  have h7 := hs5.1.one (hs5.1.c.setC (lessI (S.r o.a.toNat) o.im)) ((Fr.refl (One H.mb) _).setCell (.inr rfl) _ _) rfl rfl
  refine hK.out _ _ ⟨km_put h7.1 rfl rfl rfl, At.frb hs5.2.2.2 h7.2.f HX.out.2.2.2⟩ (fun hHeld => ?_)
  clear hK K
  have HY : Hid (∃ H', Mch (X.drew.setCell ⟨H.mb, 303, none⟩ (.int .u64 (lessI (S.r o.a.toNat) o.im))) t bs H' { S with c := lessI (S.r o.a.toNat) o.im } ∧ Tn W H (X.drew.setCell ⟨H.mb, 303, none⟩ (.int .u64 (lessI (S.r o.a.toNat) o.im))) H') := ⟨H, h7.1, hs5.2.1.trans h7.2⟩
  clear h7 hs5 c0 cz cl
  refine wpAnyH_done (by kernel_rfl) ?_ _
  clear hHeld
  go_wp2_with fail
  go_end0
  exact ⟨rfl, HY.out⟩
set_option maxHeartbeats 4000000 in
theorem issue_jump (o : O) (la : Nat) (h : Mch W t bs H S) (h0 : o.op = 18) (hs : S.s ≤ 1000000000000) (hd : 0 ≤ t.d ∧ t.d ≤ 1000) (hl : ∀ k, (S.f k).length ≤ 1000000000) : Calls Tryd.prog 63 #[ptr H.mb, o.val, .int .i64 (la : Int)] W fun e w' => IsP W t bs H (turnM t S o) e w' := by
  have HP : Hid (∀ V, Mch V t bs H S → Calls Tryd.prog 80 #[.pointer (some ⟨H.mb, 304, none⟩), .int .i64 ((S.s : Int) + 1 + t.d), .agg #[.int .u8 2, .int .u8 0, .int .i64 o.im]] V fun e w' => e = .returned (.tuple #[]) ∧ ∃ H', Mch w' t bs H' (turnM t S o) ∧ Tn V H w' H') := fun V hV => by
    have := put_any (S.s + 1 + t.d.toNat) ⟨2, 0, o.im⟩ hV (hl _)
    rw [show ((S.s + 1 + t.d.toNat : Nat) : Int) = (S.s : Int) + 1 + t.d by omega] at this
    exact this
  obtain ⟨d0, d1⟩ := hd
  have s1 : (S.s : Int) ≤ 1000000000000 := by omega
  have HX : Hid _ := box_up h o
  have hb0 : (o.op == 0) = false := by rw [h0]; rfl
  have hb1 : (o.op == 17) = false := by rw [h0]; rfl
  have hb2 : (o.op == 16) = false := by rw [h0]; rfl
  have hb3 : (o.op == 21) = false := by rw [h0]; rfl
  have hb4 : (o.op == 20) = false := by rw [h0]; rfl
  have hb5 : (o.op == 19) = false := by rw [h0]; rfl
  have hb6 : (o.op == 22) = false := by rw [h0]; rfl
  have hb7 : (o.op == 23) = false := by rw [h0]; rfl
  have hb8 : (o.op == 18) = true := by rw [h0]; rfl
  clear h h0 hl
  go_enter Tryd.func63, Tryd.ntmps63
  go_upto_region 16 with fail
  generalize (W.alloc (.cells o.cells 55)) = X at *
  have HS : Hid (∀ V, Below X.heap.size X V → Mch V t bs H S ∧ Tn W H V H ∧ KM V H.mb t S ∧ At V W.heap.size o.cells) := fun V hV => ⟨HX.out.1.up hV, HX.out.2.1.up hV, (HX.out.1.up hV).c.km, HX.out.2.2.1.below hV HX.out.2.2.1.lt⟩
  refine wp_region_held_drew (S := fun W' => KM W' H.mb t S ∧ At W' W.heap.size o.cells) (by kernel_rfl) (HS.out _ (drew_up _)).2.2 (fun hHeld => ?_)
  refine wpAnyH_take (i := 0) (v := ptr H.mb) rfl (by kernel_rfl) (by kernel_rfl) (by kernel_rfl) (fun _ _ _ h => h) (Or.inl ⟨by rfl, fun w' hSw => by (go_simp)⟩) hHeld ?_
  simp only [Act.put, List.setIfInBounds_toArray, List.set_cons_zero, List.set_cons_succ, List.getElem_cons_zero, List.getElem_toArray]
  refine wpAnyH_take (i := 1) (v := ptr H.mb) rfl (by kernel_rfl) (by kernel_rfl) (by kernel_rfl) (fun _ _ _ h => h) (Or.inl ⟨by rfl, fun w' hSw => by (go_simp)⟩) hHeld ?_
  simp only [Act.put, List.setIfInBounds_toArray, List.set_cons_zero, List.set_cons_succ, List.getElem_cons_zero, List.getElem_cons_succ, List.getElem_toArray]
  refine wpAnyH_take (i := 2) (v := .pointer (some ⟨H.mb, 304, none⟩)) rfl (by kernel_rfl) (by kernel_rfl) (by kernel_rfl) (fun _ _ _ h => h) (Or.inl ⟨by rfl, fun w' hSw => by (go_simp)⟩) hHeld ?_
  simp only [Act.put, List.setIfInBounds_toArray, List.set_cons_zero, List.set_cons_succ, List.getElem_cons_zero, List.getElem_cons_succ, List.getElem_toArray]
  refine wpAnyH_take (i := 3) (v := ptr H.mb) rfl (by kernel_rfl) (by kernel_rfl) (by kernel_rfl) (fun _ _ _ h => h) (Or.inl ⟨by rfl, fun w' hSw => by (go_simp)⟩) hHeld ?_
  simp only [Act.put, List.setIfInBounds_toArray, List.set_cons_zero, List.set_cons_succ, List.getElem_cons_zero, List.getElem_cons_succ, List.getElem_toArray]
  refine wpAnyH_take (i := 4) (v := ptr H.mb) rfl (by kernel_rfl) (by kernel_rfl) (by kernel_rfl) (fun _ _ _ h => h) (Or.inl ⟨by rfl, fun w' hSw => by (go_simp)⟩) hHeld ?_
  simp only [Act.put, List.setIfInBounds_toArray, List.set_cons_zero, List.set_cons_succ, List.getElem_cons_zero, List.getElem_cons_succ, List.getElem_toArray]
  refine wpAnyH_take (i := 5) (v := .pointer (some ⟨H.mb, 315, none⟩)) rfl (by kernel_rfl) (by kernel_rfl) (by kernel_rfl) (fun _ _ _ h => h) (Or.inl ⟨by rfl, fun w' hSw => by (go_simp)⟩) hHeld ?_
  simp only [Act.put, List.setIfInBounds_toArray, List.set_cons_zero, List.set_cons_succ, List.getElem_cons_zero, List.getElem_cons_succ, List.getElem_toArray]
  refine wpAnyH_take (i := 6) (v := .int .i64 (S.s : Int)) rfl (by kernel_rfl) (by kernel_rfl) (by kernel_rfl) (fun _ _ _ h => h) (Or.inl ⟨by rfl, fun w' hSw => by (have q := hSw.1.s; have ql := hSw.1.lt; go_simp)⟩) hHeld ?_
  simp only [Act.put, List.setIfInBounds_toArray, List.set_cons_zero, List.set_cons_succ, List.getElem_cons_zero, List.getElem_cons_succ, List.getElem_toArray]
  refine wpAnyH_take (i := 7) (v := .int .i64 ((S.s : Int) + 1)) rfl (by kernel_rfl) (by kernel_rfl) (by kernel_rfl) (fun _ _ _ h => h) (Or.inl ⟨by rfl, fun w' hSw => by (go_simp; rw [IntKind.wrap_i64]; omega)⟩) hHeld ?_
  simp only [Act.put, List.setIfInBounds_toArray, List.set_cons_zero, List.set_cons_succ, List.getElem_cons_zero, List.getElem_cons_succ, List.getElem_toArray]
  refine wpAnyH_take (i := 8) (v := ptr H.mb) rfl (by kernel_rfl) (by kernel_rfl) (by kernel_rfl) (fun _ _ _ h => h) (Or.inl ⟨by rfl, fun w' hSw => by (go_simp)⟩) hHeld ?_
  simp only [Act.put, List.setIfInBounds_toArray, List.set_cons_zero, List.set_cons_succ, List.getElem_cons_zero, List.getElem_cons_succ, List.getElem_toArray]
  refine wpAnyH_take (i := 9) (v := ptr H.mb) rfl (by kernel_rfl) (by kernel_rfl) (by kernel_rfl) (fun _ _ _ h => h) (Or.inl ⟨by rfl, fun w' hSw => by (go_simp)⟩) hHeld ?_
  simp only [Act.put, List.setIfInBounds_toArray, List.set_cons_zero, List.set_cons_succ, List.getElem_cons_zero, List.getElem_cons_succ, List.getElem_toArray]
  refine wpAnyH_take (i := 10) (v := .pointer (some ⟨H.mb, 1, none⟩)) rfl (by kernel_rfl) (by kernel_rfl) (by kernel_rfl) (fun _ _ _ h => h) (Or.inl ⟨by rfl, fun w' hSw => by (go_simp)⟩) hHeld ?_
  simp only [Act.put, List.setIfInBounds_toArray, List.set_cons_zero, List.set_cons_succ, List.getElem_cons_zero, List.getElem_cons_succ, List.getElem_toArray]
  refine wpAnyH_take (i := 11) (v := .pointer (some ⟨H.mb, 13, none⟩)) rfl (by kernel_rfl) (by kernel_rfl) (by kernel_rfl) (fun _ _ _ h => h) (Or.inl ⟨by rfl, fun w' hSw => by (go_simp)⟩) hHeld ?_
  simp only [Act.put, List.setIfInBounds_toArray, List.set_cons_zero, List.set_cons_succ, List.getElem_cons_zero, List.getElem_cons_succ, List.getElem_toArray]
  refine wpAnyH_take (i := 12) (v := .int .i64 t.d) rfl (by kernel_rfl) (by kernel_rfl) (by kernel_rfl) (fun _ _ _ h => h) (Or.inl ⟨by rfl, fun w' hSw => by (have q := hSw.1.d; have ql := hSw.1.lt; go_simp)⟩) hHeld ?_
  simp only [Act.put, List.setIfInBounds_toArray, List.set_cons_zero, List.set_cons_succ, List.getElem_cons_zero, List.getElem_cons_succ, List.getElem_toArray]
  refine wpAnyH_take (i := 13) (v := .int .i64 ((S.s : Int) + 1 + t.d)) rfl (by kernel_rfl) (by kernel_rfl) (by kernel_rfl) (fun _ _ _ h => h) (Or.inl ⟨by rfl, fun w' hSw => by (go_simp; rw [IntKind.wrap_i64]; omega)⟩) hHeld ?_
  simp only [Act.put, List.setIfInBounds_toArray, List.set_cons_zero, List.set_cons_succ, List.getElem_cons_zero, List.getElem_cons_succ, List.getElem_toArray]
  refine wpAnyH_take (i := 14) (v := .pointer (some ⟨W.heap.size, 4, none⟩)) rfl (by kernel_rfl) (by kernel_rfl) (by kernel_rfl) (fun _ _ _ h => h) (Or.inl ⟨by rfl, fun w' hSw => by (go_simp)⟩) hHeld ?_
  simp only [Act.put, List.setIfInBounds_toArray, List.set_cons_zero, List.set_cons_succ, List.getElem_cons_zero, List.getElem_cons_succ, List.getElem_toArray]
  refine wpAnyH_take (i := 15) (v := .int .i64 o.im) rfl (by kernel_rfl) (by kernel_rfl) (by kernel_rfl) (fun _ _ _ h => h) (Or.inl ⟨by rfl, fun w' hSw => by (have y0 := hSw.2.c 0 _ rfl; have y1 := hSw.2.c 1 _ rfl; have y2 := hSw.2.c 2 _ rfl; have y3 := hSw.2.c 3 _ rfl; have y4 := hSw.2.c 4 _ rfl; have yl := hSw.2.lt; go_simp)⟩) hHeld ?_
  simp only [Act.put, List.setIfInBounds_toArray, List.set_cons_zero, List.set_cons_succ, List.getElem_cons_zero, List.getElem_cons_succ, List.getElem_toArray]
  refine wpAnyH_take (i := 16) (v := .agg #[.int .u8 2, .int .u8 0, .int .i64 o.im]) rfl (by kernel_rfl) (by kernel_rfl) (by kernel_rfl) (fun _ _ _ h => h) (Or.inl ⟨by rfl, fun w' hSw => by (go_simp)⟩) hHeld ?_
  simp only [Act.put, List.setIfInBounds_toArray, List.set_cons_zero, List.set_cons_succ, List.getElem_cons_zero, List.getElem_cons_succ, List.getElem_toArray]
  have hs5 := HS.out X.drew (drew_up X)
  refine wpAnyH_ready (rs := [17]) (by kernel_rfl) (by simp) ?_
  refine AllReadyH.cons rfl (fun K hK => ?_) AllReadyH.nil
  go_simp
  refine Calls.mono (HP.out X.drew hs5.1) ?_
  rintro e w7 ⟨rfl, H', m7, t7⟩
  refine hK.out _ _ ⟨km_put m7 t7.q rfl rfl, At.frb hs5.2.2.2 t7.f HX.out.2.2.2⟩ (fun hHeld => ?_)
  clear hK K
  have HY : Hid (∃ H', Mch w7 t bs H' (turnM t S o) ∧ Tn W H w7 H') := ⟨H', m7, hs5.2.1.trans t7⟩
  clear m7 t7 hs5
  refine wpAnyH_done (by kernel_rfl) ?_ _
  clear hHeld
  go_wp2_with fail
  go_end0
  exact ⟨rfl, HY.out⟩
set_option maxHeartbeats 4000000 in
theorem issue_turn (o : O) (la L : Nat) (h : Mch W t bs H S) (hS : S.Ok L) (ho : OkM o) (h0 : o.op = 19 ∨ o.op = 22 ∨ o.op = 23) (hs : S.s ≤ 1000000000000) (hd : 0 ≤ t.d ∧ t.d ≤ 1000) (hl : ∀ k, (S.f k).length ≤ 1000000000) : Calls Tryd.prog 63 #[ptr H.mb, o.val, .int .i64 (la : Int)] W fun e w' => IsP W t bs H (if trnB S o then turnM t (trnM S o) o else trnM S o) e w' := by
  have HT : Hid (∀ V, Mch V t bs H S → Calls Tryd.prog 83 #[ptr H.mb, o.val] V fun e w' => e = .returned (.bool (trnB S o)) ∧ Mch w' t bs H (trnM S o) ∧ Tn V H w' H) := fun V hV => turns_any o hV hS ho h0
  have hs1 := (trnM_s (S := S) o).1
  have hf1 : (trnM S o).f = S.f := by unfold trnM decM; split; rfl; split <;> rfl
  have hs2 : (trnM S o).s ≤ 1000000000000 := by rw [hs1]; exact hs
  have hl2 : ∀ k, ((trnM S o).f k).length ≤ 1000000000 := by rw [hf1]; exact hl
  have HX : Hid _ := box_up h o
  have hb0 : (o.op == 0) = false := by rcases h0 with h0 | h0 | h0 <;> (rw [h0]; rfl)
  have hb1 : (o.op == 17) = false := by rcases h0 with h0 | h0 | h0 <;> (rw [h0]; rfl)
  have hb2 : (o.op == 16) = false := by rcases h0 with h0 | h0 | h0 <;> (rw [h0]; rfl)
  have hb3 : (o.op == 21) = false := by rcases h0 with h0 | h0 | h0 <;> (rw [h0]; rfl)
  have hb4 : (o.op == 20) = false := by rcases h0 with h0 | h0 | h0 <;> (rw [h0]; rfl)
  have y0 := HX.out.2.2.1.c 0 _ rfl
  clear h hS ho hs hl hf1 hs1
  generalize trnM S o = S1 at *
  have HH : Hid ((o.op == 19) = true ∨ ((o.op == 19) = false ∧ (o.op == 22) = true) ∨ ((o.op == 19) = false ∧ (o.op == 22) = false ∧ (o.op == 23) = true)) := by
    rcases h0 with h0 | h0 | h0
    · exact .inl (by rw [h0]; rfl)
    · exact .inr (.inl ⟨by rw [h0]; rfl, by rw [h0]; rfl⟩)
    · exact .inr (.inr ⟨by rw [h0]; rfl, by rw [h0]; rfl, by rw [h0]; rfl⟩)
  clear h0 y0
  cases hB : trnB S o with
  | false =>
    rw [hB] at HT
    simp only [Bool.false_eq_true, if_false]
    rcases HH.out with g1 | ⟨g1, g2⟩ | ⟨g1, g2, g3⟩
    all_goals
      go_enter Tryd.func63, Tryd.ntmps63
      go_wp2_with (first | (go_at_call 83; refine Calls.mono (HT.out _ HX.out.1) ?_; rintro e w2 ⟨rfl, h1, h2⟩; have HY : Hid (∃ H', Mch w2 t bs H' S1 ∧ Tn W H w2 H') := ⟨H, h1, HX.out.2.1.trans h2⟩; clear h1 h2))
      go_end0
      exact ⟨rfl, HY.out⟩
  | true =>
    rw [hB] at HT
    simp only [if_true]
    have HP : Hid (∀ V, Mch V t bs H S1 → Calls Tryd.prog 80 #[.pointer (some ⟨H.mb, 304, none⟩), .int .i64 ((S1.s : Int) + 1 + t.d), .agg #[.int .u8 2, .int .u8 0, .int .i64 o.im]] V fun e w' => e = .returned (.tuple #[]) ∧ ∃ H', Mch w' t bs H' (turnM t S1 o) ∧ Tn V H w' H') := fun V hV => by
      have := put_any (S1.s + 1 + t.d.toNat) ⟨2, 0, o.im⟩ hV (hl2 _)
      rw [show ((S1.s + 1 + t.d.toNat : Nat) : Int) = (S1.s : Int) + 1 + t.d by omega] at this
      exact this
    obtain ⟨d0, d1⟩ := hd
    have s1 : (S1.s : Int) ≤ 1000000000000 := by omega
    have HBx := HX.out.2.2.2
    rcases HH.out with g1 | ⟨g1, g2⟩ | ⟨g1, g2, g3⟩
    all_goals
      go_enter Tryd.func63, Tryd.ntmps63
      go_upto_region 16 with (first | (go_at_call 83; refine Calls.mono (HT.out _ HX.out.1) ?_; rintro e w2 ⟨rfl, h1, h2⟩; have HS : Hid (∀ V, Below w2.heap.size w2 V → Mch V t bs H S1 ∧ Tn W H V H ∧ KM V H.mb t S1 ∧ At V W.heap.size o.cells) := (fun V hV => ⟨h1.up hV, (HX.out.2.1.trans h2).up hV, (h1.up hV).c.km, (At.frb HX.out.2.2.1 h2.f HX.out.2.2.2).below hV (Nat.lt_of_lt_of_le HX.out.2.2.1.lt h2.f.size)⟩); clear h1 h2))
      refine wp_region_held_drew (S := fun W' => KM W' H.mb t S1 ∧ At W' W.heap.size o.cells) (by kernel_rfl) (HS.out _ (drew_up _)).2.2 (fun hHeld => ?_)
      refine wpAnyH_take (i := 0) (v := ptr H.mb) rfl (by kernel_rfl) (by kernel_rfl) (by kernel_rfl) (fun _ _ _ h => h) (Or.inl ⟨by rfl, fun w' hSw => by (go_simp)⟩) hHeld ?_
      simp only [Act.put, List.setIfInBounds_toArray, List.set_cons_zero, List.set_cons_succ, List.getElem_cons_zero, List.getElem_toArray]
      refine wpAnyH_take (i := 1) (v := ptr H.mb) rfl (by kernel_rfl) (by kernel_rfl) (by kernel_rfl) (fun _ _ _ h => h) (Or.inl ⟨by rfl, fun w' hSw => by (go_simp)⟩) hHeld ?_
      simp only [Act.put, List.setIfInBounds_toArray, List.set_cons_zero, List.set_cons_succ, List.getElem_cons_zero, List.getElem_cons_succ, List.getElem_toArray]
      refine wpAnyH_take (i := 2) (v := .pointer (some ⟨H.mb, 304, none⟩)) rfl (by kernel_rfl) (by kernel_rfl) (by kernel_rfl) (fun _ _ _ h => h) (Or.inl ⟨by rfl, fun w' hSw => by (go_simp)⟩) hHeld ?_
      simp only [Act.put, List.setIfInBounds_toArray, List.set_cons_zero, List.set_cons_succ, List.getElem_cons_zero, List.getElem_cons_succ, List.getElem_toArray]
      refine wpAnyH_take (i := 3) (v := ptr H.mb) rfl (by kernel_rfl) (by kernel_rfl) (by kernel_rfl) (fun _ _ _ h => h) (Or.inl ⟨by rfl, fun w' hSw => by (go_simp)⟩) hHeld ?_
      simp only [Act.put, List.setIfInBounds_toArray, List.set_cons_zero, List.set_cons_succ, List.getElem_cons_zero, List.getElem_cons_succ, List.getElem_toArray]
      refine wpAnyH_take (i := 4) (v := ptr H.mb) rfl (by kernel_rfl) (by kernel_rfl) (by kernel_rfl) (fun _ _ _ h => h) (Or.inl ⟨by rfl, fun w' hSw => by (go_simp)⟩) hHeld ?_
      simp only [Act.put, List.setIfInBounds_toArray, List.set_cons_zero, List.set_cons_succ, List.getElem_cons_zero, List.getElem_cons_succ, List.getElem_toArray]
      refine wpAnyH_take (i := 5) (v := .pointer (some ⟨H.mb, 315, none⟩)) rfl (by kernel_rfl) (by kernel_rfl) (by kernel_rfl) (fun _ _ _ h => h) (Or.inl ⟨by rfl, fun w' hSw => by (go_simp)⟩) hHeld ?_
      simp only [Act.put, List.setIfInBounds_toArray, List.set_cons_zero, List.set_cons_succ, List.getElem_cons_zero, List.getElem_cons_succ, List.getElem_toArray]
      refine wpAnyH_take (i := 6) (v := .int .i64 (S1.s : Int)) rfl (by kernel_rfl) (by kernel_rfl) (by kernel_rfl) (fun _ _ _ h => h) (Or.inl ⟨by rfl, fun w' hSw => by (have q := hSw.1.s; have ql := hSw.1.lt; go_simp)⟩) hHeld ?_
      simp only [Act.put, List.setIfInBounds_toArray, List.set_cons_zero, List.set_cons_succ, List.getElem_cons_zero, List.getElem_cons_succ, List.getElem_toArray]
      refine wpAnyH_take (i := 7) (v := .int .i64 ((S1.s : Int) + 1)) rfl (by kernel_rfl) (by kernel_rfl) (by kernel_rfl) (fun _ _ _ h => h) (Or.inl ⟨by rfl, fun w' hSw => by (go_simp; rw [IntKind.wrap_i64]; omega)⟩) hHeld ?_
      simp only [Act.put, List.setIfInBounds_toArray, List.set_cons_zero, List.set_cons_succ, List.getElem_cons_zero, List.getElem_cons_succ, List.getElem_toArray]
      refine wpAnyH_take (i := 8) (v := ptr H.mb) rfl (by kernel_rfl) (by kernel_rfl) (by kernel_rfl) (fun _ _ _ h => h) (Or.inl ⟨by rfl, fun w' hSw => by (go_simp)⟩) hHeld ?_
      simp only [Act.put, List.setIfInBounds_toArray, List.set_cons_zero, List.set_cons_succ, List.getElem_cons_zero, List.getElem_cons_succ, List.getElem_toArray]
      refine wpAnyH_take (i := 9) (v := ptr H.mb) rfl (by kernel_rfl) (by kernel_rfl) (by kernel_rfl) (fun _ _ _ h => h) (Or.inl ⟨by rfl, fun w' hSw => by (go_simp)⟩) hHeld ?_
      simp only [Act.put, List.setIfInBounds_toArray, List.set_cons_zero, List.set_cons_succ, List.getElem_cons_zero, List.getElem_cons_succ, List.getElem_toArray]
      refine wpAnyH_take (i := 10) (v := .pointer (some ⟨H.mb, 1, none⟩)) rfl (by kernel_rfl) (by kernel_rfl) (by kernel_rfl) (fun _ _ _ h => h) (Or.inl ⟨by rfl, fun w' hSw => by (go_simp)⟩) hHeld ?_
      simp only [Act.put, List.setIfInBounds_toArray, List.set_cons_zero, List.set_cons_succ, List.getElem_cons_zero, List.getElem_cons_succ, List.getElem_toArray]
      refine wpAnyH_take (i := 11) (v := .pointer (some ⟨H.mb, 13, none⟩)) rfl (by kernel_rfl) (by kernel_rfl) (by kernel_rfl) (fun _ _ _ h => h) (Or.inl ⟨by rfl, fun w' hSw => by (go_simp)⟩) hHeld ?_
      simp only [Act.put, List.setIfInBounds_toArray, List.set_cons_zero, List.set_cons_succ, List.getElem_cons_zero, List.getElem_cons_succ, List.getElem_toArray]
      refine wpAnyH_take (i := 12) (v := .int .i64 t.d) rfl (by kernel_rfl) (by kernel_rfl) (by kernel_rfl) (fun _ _ _ h => h) (Or.inl ⟨by rfl, fun w' hSw => by (have q := hSw.1.d; have ql := hSw.1.lt; go_simp)⟩) hHeld ?_
      simp only [Act.put, List.setIfInBounds_toArray, List.set_cons_zero, List.set_cons_succ, List.getElem_cons_zero, List.getElem_cons_succ, List.getElem_toArray]
      refine wpAnyH_take (i := 13) (v := .int .i64 ((S1.s : Int) + 1 + t.d)) rfl (by kernel_rfl) (by kernel_rfl) (by kernel_rfl) (fun _ _ _ h => h) (Or.inl ⟨by rfl, fun w' hSw => by (go_simp; rw [IntKind.wrap_i64]; omega)⟩) hHeld ?_
      simp only [Act.put, List.setIfInBounds_toArray, List.set_cons_zero, List.set_cons_succ, List.getElem_cons_zero, List.getElem_cons_succ, List.getElem_toArray]
      refine wpAnyH_take (i := 14) (v := .pointer (some ⟨W.heap.size, 4, none⟩)) rfl (by kernel_rfl) (by kernel_rfl) (by kernel_rfl) (fun _ _ _ h => h) (Or.inl ⟨by rfl, fun w' hSw => by (go_simp)⟩) hHeld ?_
      simp only [Act.put, List.setIfInBounds_toArray, List.set_cons_zero, List.set_cons_succ, List.getElem_cons_zero, List.getElem_cons_succ, List.getElem_toArray]
      refine wpAnyH_take (i := 15) (v := .int .i64 o.im) rfl (by kernel_rfl) (by kernel_rfl) (by kernel_rfl) (fun _ _ _ h => h) (Or.inl ⟨by rfl, fun w' hSw => by (have y0 := hSw.2.c 0 _ rfl; have y1 := hSw.2.c 1 _ rfl; have y2 := hSw.2.c 2 _ rfl; have y3 := hSw.2.c 3 _ rfl; have y4 := hSw.2.c 4 _ rfl; have yl := hSw.2.lt; go_simp)⟩) hHeld ?_
      simp only [Act.put, List.setIfInBounds_toArray, List.set_cons_zero, List.set_cons_succ, List.getElem_cons_zero, List.getElem_cons_succ, List.getElem_toArray]
      refine wpAnyH_take (i := 16) (v := .agg #[.int .u8 2, .int .u8 0, .int .i64 o.im]) rfl (by kernel_rfl) (by kernel_rfl) (by kernel_rfl) (fun _ _ _ h => h) (Or.inl ⟨by rfl, fun w' hSw => by (go_simp)⟩) hHeld ?_
      simp only [Act.put, List.setIfInBounds_toArray, List.set_cons_zero, List.set_cons_succ, List.getElem_cons_zero, List.getElem_cons_succ, List.getElem_toArray]
      have hs5 := HS.out w2.drew (drew_up w2)
      refine wpAnyH_ready (rs := [17]) (by kernel_rfl) (by simp) ?_
      refine AllReadyH.cons rfl (fun K hK => ?_) AllReadyH.nil
      go_simp
      refine Calls.mono (HP.out w2.drew hs5.1) ?_
      rintro e w7 ⟨rfl, H', m7, t7⟩
      refine hK.out _ _ ⟨km_put m7 t7.q rfl rfl, At.frb hs5.2.2.2 t7.f HX.out.2.2.2⟩ (fun hHeld => ?_)
      clear hK K
      have HY : Hid (∃ H', Mch w7 t bs H' (turnM t S1 o) ∧ Tn W H w7 H') := ⟨H', m7, hs5.2.1.trans t7⟩
      clear m7 t7 hs5
      refine wpAnyH_done (by kernel_rfl) ?_ _
      clear hHeld
      go_wp2_with fail
      go_end0
      exact ⟨rfl, HY.out⟩
set_option maxHeartbeats 4000000 in
theorem issue_other (o : O) (la L : Nat) (h : Mch W t bs H S) (hS : S.Ok L) (ho : OkM o) (hn : ¬ (o.op = 20 ∨ o.op = 0 ∨ o.op = 17 ∨ o.op = 16 ∨ o.op = 21 ∨ o.op = 19 ∨ o.op = 22 ∨ o.op = 23 ∨ o.op = 18)) (he : resE S o = 0) (hl : ∀ k, (S.f k).length ≤ 1000000000) : Calls Tryd.prog 63 #[ptr H.mb, o.val, .int .i64 (la : Int)] W fun e w' => IsP W t bs H (putF S la ⟨0, o.d, resV S o⟩) e w' := by
  have HR : Hid (∀ V, Mch V t bs H S → Calls Tryd.prog 84 #[ptr H.mb, o.val] V fun e w' => e = .returned (.int .i64 (resV S o)) ∧ Below V.heap.size V w') := fun V hV => result_ok o hV.c ho hS.r he
  have HP : Hid (∀ V, Mch V t bs H S → Calls Tryd.prog 80 #[.pointer (some ⟨H.mb, 304, none⟩), .int .i64 (la : Int), .agg #[.int .u8 0, .int .u8 o.d, .int .i64 (resV S o)]] V fun e w' => e = .returned (.tuple #[]) ∧ ∃ H', Mch w' t bs H' (putF S la ⟨0, o.d, resV S o⟩) ∧ Tn V H w' H') := fun V hV => put_any la ⟨0, o.d, resV S o⟩ hV (hl _)
  have hb0 : (o.op == 0) = false := by simp; omega
  have hb1 : (o.op == 17) = false := by simp; omega
  have hb2 : (o.op == 16) = false := by simp; omega
  have hb3 : (o.op == 21) = false := by simp; omega
  have hb4 : (o.op == 20) = false := by simp; omega
  have hb5 : (o.op == 19) = false := by simp; omega
  have hb6 : (o.op == 22) = false := by simp; omega
  have hb7 : (o.op == 23) = false := by simp; omega
  have hb8 : (o.op == 18) = false := by simp; omega
  have HX : Hid _ := box_up h o
  clear h hS ho hn he hl
  go_enter Tryd.func63, Tryd.ntmps63
  go_upto_region 17 with fail
  generalize (W.alloc (.cells o.cells 55)) = X at *
  have HS : Hid (∀ V, Below X.heap.size X V → Mch V t bs H S ∧ Tn W H V H ∧ KM V H.mb t S ∧ At V W.heap.size o.cells) := fun V hV => ⟨HX.out.1.up hV, HX.out.2.1.up hV, (HX.out.1.up hV).c.km, HX.out.2.2.1.below hV HX.out.2.2.1.lt⟩
  refine wp_region_held_drew (S := fun W' => KM W' H.mb t S ∧ At W' W.heap.size o.cells) (by kernel_rfl) (HS.out _ (drew_up _)).2.2 (fun hHeld => ?_)
  refine wpAnyH_take (i := 0) (v := ptr H.mb) rfl (by kernel_rfl) (by kernel_rfl) (by kernel_rfl) (fun _ _ _ h => h) (Or.inl ⟨by rfl, fun w' hSw => by (go_simp)⟩) hHeld ?_
  simp only [Act.put, List.setIfInBounds_toArray, List.set_cons_zero, List.set_cons_succ, List.getElem_cons_zero, List.getElem_toArray]
  refine wpAnyH_take (i := 1) (v := ptr H.mb) rfl (by kernel_rfl) (by kernel_rfl) (by kernel_rfl) (fun _ _ _ h => h) (Or.inl ⟨by rfl, fun w' hSw => by (go_simp)⟩) hHeld ?_
  simp only [Act.put, List.setIfInBounds_toArray, List.set_cons_zero, List.set_cons_succ, List.getElem_cons_zero, List.getElem_cons_succ, List.getElem_toArray]
  refine wpAnyH_take (i := 2) (v := .pointer (some ⟨H.mb, 304, none⟩)) rfl (by kernel_rfl) (by kernel_rfl) (by kernel_rfl) (fun _ _ _ h => h) (Or.inl ⟨by rfl, fun w' hSw => by (go_simp)⟩) hHeld ?_
  simp only [Act.put, List.setIfInBounds_toArray, List.set_cons_zero, List.set_cons_succ, List.getElem_cons_zero, List.getElem_cons_succ, List.getElem_toArray]
  refine wpAnyH_take (i := 3) (v := .int .i64 (la : Int)) rfl (by kernel_rfl) (by kernel_rfl) (by kernel_rfl) (fun _ _ _ h => h) (Or.inl ⟨by rfl, fun w' hSw => by (go_simp)⟩) hHeld ?_
  simp only [Act.put, List.setIfInBounds_toArray, List.set_cons_zero, List.set_cons_succ, List.getElem_cons_zero, List.getElem_cons_succ, List.getElem_toArray]
  refine wpAnyH_take (i := 4) (v := .pointer (some ⟨W.heap.size, 1, none⟩)) rfl (by kernel_rfl) (by kernel_rfl) (by kernel_rfl) (fun _ _ _ h => h) (Or.inl ⟨by rfl, fun w' hSw => by (go_simp)⟩) hHeld ?_
  simp only [Act.put, List.setIfInBounds_toArray, List.set_cons_zero, List.set_cons_succ, List.getElem_cons_zero, List.getElem_cons_succ, List.getElem_toArray]
  refine wpAnyH_take (i := 5) (v := .int .u8 o.d) rfl (by kernel_rfl) (by kernel_rfl) (by kernel_rfl) (fun _ _ _ h => h) (Or.inl ⟨by rfl, fun w' hSw => by (have y0 := hSw.2.c 0 _ rfl; have y1 := hSw.2.c 1 _ rfl; have y2 := hSw.2.c 2 _ rfl; have y3 := hSw.2.c 3 _ rfl; have y4 := hSw.2.c 4 _ rfl; have yl := hSw.2.lt; go_simp)⟩) hHeld ?_
  simp only [Act.put, List.setIfInBounds_toArray, List.set_cons_zero, List.set_cons_succ, List.getElem_cons_zero, List.getElem_cons_succ, List.getElem_toArray]
  refine wpAnyH_take (i := 6) (v := ptr H.mb) rfl (by kernel_rfl) (by kernel_rfl) (by kernel_rfl) (fun _ _ _ h => h) (Or.inl ⟨by rfl, fun w' hSw => by (go_simp)⟩) hHeld ?_
  simp only [Act.put, List.setIfInBounds_toArray, List.set_cons_zero, List.set_cons_succ, List.getElem_cons_zero, List.getElem_cons_succ, List.getElem_toArray]
  refine wpAnyH_take (i := 7) (v := o.val) rfl (by kernel_rfl) (by kernel_rfl) (by kernel_rfl) (fun _ _ _ h => h) (Or.inl ⟨by rfl, fun w' hSw => by (have y0 := hSw.2.c 0 _ rfl; have y1 := hSw.2.c 1 _ rfl; have y2 := hSw.2.c 2 _ rfl; have y3 := hSw.2.c 3 _ rfl; have y4 := hSw.2.c 4 _ rfl; have yl := hSw.2.lt; go_simp)⟩) hHeld ?_
  simp only [Act.put, List.setIfInBounds_toArray, List.set_cons_zero, List.set_cons_succ, List.getElem_cons_zero, List.getElem_cons_succ, List.getElem_toArray]
  refine wpAnyH_ready (rs := [8]) (by kernel_rfl) (by simp) ?_
  refine AllReadyH.cons rfl (fun K hK => ?_) AllReadyH.nil
  go_simp
  refine Calls.mono (HR.out X.drew (HS.out _ (drew_up X)).1) ?_
  rintro e w5 ⟨rfl, h5⟩
  have hs5 := HS.out w5 ((drew_up X).trans (h5.mono (Nat.le_refl _)))
  refine hK.out _ _ hs5.2.2 (fun hHeld => ?_)
  clear hK K
  refine wpAnyH_take (i := 9) (v := .agg #[.int .u8 0, .int .u8 o.d, .int .i64 (resV S o)]) rfl (by kernel_rfl) (by kernel_rfl) (by kernel_rfl) (fun _ _ _ h => h) (Or.inl ⟨by rfl, fun w' hSw => by (go_simp)⟩) hHeld ?_
  simp only [Act.put, List.setIfInBounds_toArray, List.set_cons_zero, List.set_cons_succ, List.getElem_cons_zero, List.getElem_cons_succ, List.getElem_toArray]
  refine wpAnyH_ready (rs := [10]) (by kernel_rfl) (by simp) ?_
  refine AllReadyH.cons rfl (fun K hK => ?_) AllReadyH.nil
  go_simp
  refine Calls.mono (HP.out w5 hs5.1) ?_
  rintro e w7 ⟨rfl, H', m7, t7⟩
  refine hK.out _ _ ⟨km_put m7 t7.q rfl rfl, At.frb hs5.2.2.2 t7.f HX.out.2.2.2⟩ (fun hHeld => ?_)
  clear hK K
  have HY : Hid (∃ H', Mch w7 t bs H' (putF S la ⟨0, o.d, resV S o⟩) ∧ Tn W H w7 H') := ⟨H', m7, hs5.2.1.trans t7⟩
  clear m7 t7 hs5 h5
  refine wpAnyH_done (by kernel_rfl) ?_ _
  clear hHeld
  go_wp2_with fail
  go_end0
  exact ⟨rfl, HY.out⟩
set_option maxHeartbeats 4000000 in
theorem issue_trap (o : O) (la L : Nat) (h : Mch W t bs H S) (hS : S.Ok L) (ho : OkM o) (hn : ¬ (o.op = 20 ∨ o.op = 0 ∨ o.op = 17 ∨ o.op = 16 ∨ o.op = 21 ∨ o.op = 19 ∨ o.op = 22 ∨ o.op = 23 ∨ o.op = 18)) (he : resE S o ≠ 0) : Calls Tryd.prog 63 #[ptr H.mb, o.val, .int .i64 (la : Int)] W fun e w' => e = .panicked [{ v := .iface 109 (.agg #[.int .i64 (resE S o), .int .i64 0]), recovered := false }] ∧ Below W.heap.size W w' := by
  have HR : Hid (∀ V, Mch V t bs H S → Calls Tryd.prog 84 #[ptr H.mb, o.val] V fun e w' => e = .panicked [{ v := .iface 109 (.agg #[.int .i64 (resE S o), .int .i64 0]), recovered := false }] ∧ Below V.heap.size V w') := fun V hV => result_trap o hV.c ho hS.r he
  have HB0 : Hid (Below W.heap.size W (W.alloc (.cells o.cells 55))) := (Below.refl _ _).alloc (Nat.le_refl _) _
  have hb0 : (o.op == 0) = false := by simp; omega
  have hb1 : (o.op == 17) = false := by simp; omega
  have hb2 : (o.op == 16) = false := by simp; omega
  have hb3 : (o.op == 21) = false := by simp; omega
  have hb4 : (o.op == 20) = false := by simp; omega
  have hb5 : (o.op == 19) = false := by simp; omega
  have hb6 : (o.op == 22) = false := by simp; omega
  have hb7 : (o.op == 23) = false := by simp; omega
  have hb8 : (o.op == 18) = false := by simp; omega
  have HX : Hid _ := box_up h o
  clear h hS ho hn he
  go_enter Tryd.func63, Tryd.ntmps63
  go_upto_region 17 with fail
  generalize (W.alloc (.cells o.cells 55)) = X at *
  have HS : Hid (∀ V, Below X.heap.size X V → Mch V t bs H S ∧ Tn W H V H ∧ KM V H.mb t S ∧ At V W.heap.size o.cells) := fun V hV => ⟨HX.out.1.up hV, HX.out.2.1.up hV, (HX.out.1.up hV).c.km, HX.out.2.2.1.below hV HX.out.2.2.1.lt⟩
  refine wp_region_held_drew (S := fun W' => KM W' H.mb t S ∧ At W' W.heap.size o.cells) (by kernel_rfl) (HS.out _ (drew_up _)).2.2 (fun hHeld => ?_)
  refine wpAnyH_take (i := 0) (v := ptr H.mb) rfl (by kernel_rfl) (by kernel_rfl) (by kernel_rfl) (fun _ _ _ h => h) (Or.inl ⟨by rfl, fun w' hSw => by (go_simp)⟩) hHeld ?_
  simp only [Act.put, List.setIfInBounds_toArray, List.set_cons_zero, List.set_cons_succ, List.getElem_cons_zero, List.getElem_toArray]
  refine wpAnyH_take (i := 1) (v := ptr H.mb) rfl (by kernel_rfl) (by kernel_rfl) (by kernel_rfl) (fun _ _ _ h => h) (Or.inl ⟨by rfl, fun w' hSw => by (go_simp)⟩) hHeld ?_
  simp only [Act.put, List.setIfInBounds_toArray, List.set_cons_zero, List.set_cons_succ, List.getElem_cons_zero, List.getElem_cons_succ, List.getElem_toArray]
  refine wpAnyH_take (i := 2) (v := .pointer (some ⟨H.mb, 304, none⟩)) rfl (by kernel_rfl) (by kernel_rfl) (by kernel_rfl) (fun _ _ _ h => h) (Or.inl ⟨by rfl, fun w' hSw => by (go_simp)⟩) hHeld ?_
  simp only [Act.put, List.setIfInBounds_toArray, List.set_cons_zero, List.set_cons_succ, List.getElem_cons_zero, List.getElem_cons_succ, List.getElem_toArray]
  refine wpAnyH_take (i := 3) (v := .int .i64 (la : Int)) rfl (by kernel_rfl) (by kernel_rfl) (by kernel_rfl) (fun _ _ _ h => h) (Or.inl ⟨by rfl, fun w' hSw => by (go_simp)⟩) hHeld ?_
  simp only [Act.put, List.setIfInBounds_toArray, List.set_cons_zero, List.set_cons_succ, List.getElem_cons_zero, List.getElem_cons_succ, List.getElem_toArray]
  refine wpAnyH_take (i := 4) (v := .pointer (some ⟨W.heap.size, 1, none⟩)) rfl (by kernel_rfl) (by kernel_rfl) (by kernel_rfl) (fun _ _ _ h => h) (Or.inl ⟨by rfl, fun w' hSw => by (go_simp)⟩) hHeld ?_
  simp only [Act.put, List.setIfInBounds_toArray, List.set_cons_zero, List.set_cons_succ, List.getElem_cons_zero, List.getElem_cons_succ, List.getElem_toArray]
  refine wpAnyH_take (i := 5) (v := .int .u8 o.d) rfl (by kernel_rfl) (by kernel_rfl) (by kernel_rfl) (fun _ _ _ h => h) (Or.inl ⟨by rfl, fun w' hSw => by (have y0 := hSw.2.c 0 _ rfl; have y1 := hSw.2.c 1 _ rfl; have y2 := hSw.2.c 2 _ rfl; have y3 := hSw.2.c 3 _ rfl; have y4 := hSw.2.c 4 _ rfl; have yl := hSw.2.lt; go_simp)⟩) hHeld ?_
  simp only [Act.put, List.setIfInBounds_toArray, List.set_cons_zero, List.set_cons_succ, List.getElem_cons_zero, List.getElem_cons_succ, List.getElem_toArray]
  refine wpAnyH_take (i := 6) (v := ptr H.mb) rfl (by kernel_rfl) (by kernel_rfl) (by kernel_rfl) (fun _ _ _ h => h) (Or.inl ⟨by rfl, fun w' hSw => by (go_simp)⟩) hHeld ?_
  simp only [Act.put, List.setIfInBounds_toArray, List.set_cons_zero, List.set_cons_succ, List.getElem_cons_zero, List.getElem_cons_succ, List.getElem_toArray]
  refine wpAnyH_take (i := 7) (v := o.val) rfl (by kernel_rfl) (by kernel_rfl) (by kernel_rfl) (fun _ _ _ h => h) (Or.inl ⟨by rfl, fun w' hSw => by (have y0 := hSw.2.c 0 _ rfl; have y1 := hSw.2.c 1 _ rfl; have y2 := hSw.2.c 2 _ rfl; have y3 := hSw.2.c 3 _ rfl; have y4 := hSw.2.c 4 _ rfl; have yl := hSw.2.lt; go_simp)⟩) hHeld ?_
  simp only [Act.put, List.setIfInBounds_toArray, List.set_cons_zero, List.set_cons_succ, List.getElem_cons_zero, List.getElem_cons_succ, List.getElem_toArray]
  refine wpAnyH_ready (rs := [8]) (by kernel_rfl) (by simp) ?_
  refine AllReadyH.cons rfl (fun K hK => ?_) AllReadyH.nil
  go_simp
  refine Calls.mono (HR.out X.drew (HS.out _ (drew_up X)).1) ?_
  rintro e w5 ⟨rfl, h5⟩
  exact ⟨rfl, rfl, HB0.out.drew.trans (h5.mono HB0.out.drew.size)⟩
end
end Go.Proofs.YtldfjlepbbmhnaaDoor.Pp
