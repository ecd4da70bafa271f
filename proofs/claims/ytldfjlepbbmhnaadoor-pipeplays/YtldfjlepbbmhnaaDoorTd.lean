/- What is in flight (registers, Flying), read off the program by the walk. Conditions: the machine lies in memory. -/
import Derived.Test.YtldfjlepbbmhnaaDoorQm
import Derived.Test.YtldfjlepbbmhnaaDoorQo
import Derived.Deep.MidRow
namespace Go.Proofs.YtldfjlepbbmhnaaDoor.Pp
open Go.ChangeShapes Go.WideShapes Go.ChangeAt Go.RowKit
open _root_.Go.Proofs.YtldfjlepbbmhnaaDoor.Op _root_.Go.Proofs.YtldfjlepbbmhnaaDoor.So _root_.Go.Proofs.YtldfjlepbbmhnaaDoor.Bu
open _root_.Go.Proofs.YtldfjlepbbmhnaaDoor.Tb (Tab TabAt Bnds)
set_option maxRecDepth 20000

section
variable {w : World} {t : Tab} {bs : List Bn} {H : Hx} {S : PM}
set_option maxHeartbeats 4000000 in
theorem run_open (n L : Nat) (h : Mch w t bs H S) (hS : S.Ok L) (hB : Bo t bs) (hn : n ≤ 1048576) (hs : S.s + n ≤ 10000000000) (hL : L + 512 * n ≤ 100000000) (S2 : PM) (h2 : runM t bs n S = S2) (he : S2.e ≠ 0) (hp2 : S2.p.length ≤ 1000000000) : Calls Tryd.prog 10 #[ptr H.mb, .int .i64 (n : Int)] w fun e w' => ∃ vp, e = .returned (.agg #[.int .i64 S2.e, .int .i64 0, vp, .slice none 0 0, .int .i64 (S2.s : Int)]) ∧ w'.ownsRow w.heap.size 2 1 vp S2.p.length (S2.p.map fun x => .int .i64 x) ∧ ∃ H', Mch w' t bs H' S2 ∧ Tn w H w' H' ∧ (∀ b, vp.ownBlock = some b → ¬ own H' b) := by
  have hBw : Below w.heap.size w (w.alloc (.cells #[.int .i64 0, .int .i64 0, .slice none 0 0, .slice none 0 0, .int .i64 0] 42)) := (Below.refl _ _).alloc (Nat.le_refl _) _
  have HG : Hid (Calls Tryd.prog 28 #[ptr H.mb, .int .i64 (n : Int)] (w.alloc (.cells #[.int .i64 0, .int .i64 0, .slice none 0 0, .slice none 0 0, .int .i64 0] 42)) fun e w' => e = .returned (.tuple #[]) ∧ ∃ H', Mch w' t bs H' S2 ∧ Tn (w.alloc (.cells #[.int .i64 0, .int .i64 0, .slice none 0 0, .slice none 0 0, .int .i64 0] 42)) H w' H') := by
    have := goOn_any n L (h.up hBw) hS hB hs hL
    rw [h2] at this
    exact this
  have HA : Hid (At (w.alloc (.cells #[.int .i64 0, .int .i64 0, .slice none 0 0, .slice none 0 0, .int .i64 0] 42)) w.heap.size #[.int .i64 0, .int .i64 0, .slice none 0 0, .slice none 0 0, .int .i64 0] ∧ ¬ own H w.heap.size) := ⟨At.new _ _ _, fun e => absurd (own_lt h e) (by omega)⟩
  have HE0 : Hid (S2.e ≠ 0) := he
  have HB0 : Hid (∀ V, Fr (own H) w V → BsAt V H.ba bs) := h.bF
  clear h hS hB hs hL h2 he hBw
  have n0 : (0 : Int) ≤ (n : Int) := by omega
  have n1 : (n : Int) ≤ 1048576 := by omega
  have n2 : ¬ (n : Int) < 0 := by omega
  have n3 : max (n : Int) 0 = (n : Int) := by omega
  have n4 : min (n : Int) 1048576 = (n : Int) := by omega
  go_enter Tryd.func10, Tryd.ntmps10
  go_upto_region 4 with (first
    | (go_at_call 28; refine Calls.mono HG.out ?_; rintro e w1 ⟨rfl, H1, m1, t1⟩; have HM : Hid (Mch w1 t bs H1 S2 ∧ Tn w H w1 H1 ∧ H1.mb = H.mb ∧ ¬ own H1 w.heap.size ∧ At w1 w.heap.size #[.int .i64 0, .int .i64 0, .slice none 0 0, .slice none 0 0, .int .i64 0]) := ⟨m1, (Tn.of ((Below.refl _ _).alloc (Nat.le_refl _) _)).trans t1, t1.q, fun e => (t1.t _ e).elim HA.out.2 (fun e => by rw [World.size_alloc] at e; omega), At.frb HA.out.1 t1.f HA.out.2⟩; clear m1 t1))
  have HK : Hid (∀ V, Below w1.heap.size w1 V → (H.mb < V.heap.size ∧ V.cell? ⟨H.mb, 312, none⟩ = some (.int .i64 S2.e) ∧ V.cell? ⟨H.mb, 314, none⟩ = some H1.pv ∧ V.cell? ⟨H.mb, 315, none⟩ = some (.int .i64 (S2.s : Int))) ∧ Mch V t bs H1 S2) := fun V hV => by
    have m := HM.out.1.up hV
    have e0 := m.c.lt
    have e1 := m.c.e
    have e2 := m.c.p
    have e3 := m.c.s
    rw [HM.out.2.2.1] at e0 e1 e2 e3
    exact ⟨⟨e0, e1, e2, e3⟩, m⟩
  have HCl : Hid (∀ V, Below w1.heap.size w1 V → Calls Tryd.prog 29 #[H1.pv] V fun e w' => ∃ v', e = .returned v' ∧ Cf V w' v' S2.p.length (S2.p.map fun x => .int .i64 x)) := fun V hV => clone_row H1.pv S2.p V (by omega) (HK.out V hV).2.pp
  have HR : Hid (∀ (V V2 : World) (bx : Nat) (vp : Value) (B : Nat), Below w1.heap.size w1 V → w1.heap.size ≤ bx → At V bx #[.int .i64 S2.e, .int .i64 0, vp, .slice none 0 0, .int .i64 (S2.s : Int)] → w1.heap.size ≤ B → V.ownsRow B 2 1 vp S2.p.length (S2.p.map fun x => .int .i64 x) → vp.ownBlock ≠ some bx → Below V.heap.size V V2 → Ro w V2 t bs H S2 bx vp) := fun V V2 bx vp B hV hbx hx hB hp hb hV2 => by
    have hw : w.heap.size < w1.heap.size := HM.out.2.2.2.2.lt
    have hb2 : Below w1.heap.size w1 V2 := hV.trans (hV2.mono hV.size)
    refine ⟨⟨H1, (HM.out.1.up hb2), HM.out.2.1.up hb2, HM.out.2.2.1, HM.out.2.2.2.1, fun e => absurd (own_lt HM.out.1 e) (by omega), fun b hb' e => by have := (hp.lt b hb').1; have := own_lt HM.out.1 e; omega⟩, HM.out.2.2.2.2.below hb2 hw, hx.below hV2 hx.lt, by omega, ?_, hb⟩
    have hp2 := row_up hp hV2
    exact ⟨hp2.1, hp2.2.imp id fun ⟨g, cap, cur, k1, k2, k3⟩ => ⟨g, cap, cur, k1, by omega, k3⟩⟩
  go_cut [5] (fun v wc => ∃ bx vp, v = .pointer (some ⟨bx, 0, none⟩) ∧ Ro w wc t bs H S2 bx vp)
  case first =>
    refine wp_region_held_drew (S := fun W' => Below w1.heap.size w1 W') (by kernel_rfl) (drew_up _) (fun hHeld => ?_)
    refine wpAnyH_take (i := 0) (v := ptr H.mb) rfl (by kernel_rfl) (by kernel_rfl) (by kernel_rfl) (fun _ _ _ h => h) (Or.inl ⟨by rfl, fun w' hSw => by (go_simp)⟩) hHeld ?_
    simp only [Act.put, List.setIfInBounds_toArray, List.set_cons_zero, List.set_cons_succ, List.getElem_cons_zero, List.getElem_toArray]
    refine wpAnyH_take (i := 1) (v := ptr H.mb) rfl (by kernel_rfl) (by kernel_rfl) (by kernel_rfl) (fun _ _ _ h => h) (Or.inl ⟨by rfl, fun w' hSw => by (go_simp)⟩) hHeld ?_
    simp only [Act.put, List.setIfInBounds_toArray, List.set_cons_zero, List.set_cons_succ, List.getElem_cons_zero, List.getElem_cons_succ, List.getElem_toArray]
    refine wpAnyH_take (i := 2) (v := .pointer (some ⟨H.mb, 312, none⟩)) rfl (by kernel_rfl) (by kernel_rfl) (by kernel_rfl) (fun _ _ _ h => h) (Or.inl ⟨by rfl, fun w' hSw => by (go_simp)⟩) hHeld ?_
    simp only [Act.put, List.setIfInBounds_toArray, List.set_cons_zero, List.set_cons_succ, List.getElem_cons_zero, List.getElem_cons_succ, List.getElem_toArray]
    refine wpAnyH_take (i := 3) (v := .int .i64 S2.e) rfl (by kernel_rfl) (by kernel_rfl) (by kernel_rfl) (fun _ _ _ h => h) (Or.inl ⟨by rfl, fun w' hSw => by (have hk := (HK.out _ hSw).1; obtain ⟨ql, s0, s1, s2⟩ := hk; go_simp)⟩) hHeld ?_
    simp only [Act.put, List.setIfInBounds_toArray, List.set_cons_zero, List.set_cons_succ, List.getElem_cons_zero, List.getElem_cons_succ, List.getElem_toArray]
    refine wpAnyH_take (i := 4) (v := ptr H.mb) rfl (by kernel_rfl) (by kernel_rfl) (by kernel_rfl) (fun _ _ _ h => h) (Or.inl ⟨by rfl, fun w' hSw => by (go_simp)⟩) hHeld ?_
    simp only [Act.put, List.setIfInBounds_toArray, List.set_cons_zero, List.set_cons_succ, List.getElem_cons_zero, List.getElem_cons_succ, List.getElem_toArray]
    refine wpAnyH_take (i := 5) (v := ptr H.mb) rfl (by kernel_rfl) (by kernel_rfl) (by kernel_rfl) (fun _ _ _ h => h) (Or.inl ⟨by rfl, fun w' hSw => by (go_simp)⟩) hHeld ?_
    simp only [Act.put, List.setIfInBounds_toArray, List.set_cons_zero, List.set_cons_succ, List.getElem_cons_zero, List.getElem_cons_succ, List.getElem_toArray]
    refine wpAnyH_take (i := 6) (v := .pointer (some ⟨H.mb, 314, none⟩)) rfl (by kernel_rfl) (by kernel_rfl) (by kernel_rfl) (fun _ _ _ h => h) (Or.inl ⟨by rfl, fun w' hSw => by (go_simp)⟩) hHeld ?_
    simp only [Act.put, List.setIfInBounds_toArray, List.set_cons_zero, List.set_cons_succ, List.getElem_cons_zero, List.getElem_cons_succ, List.getElem_toArray]
    refine wpAnyH_take (i := 7) (v := H1.pv) rfl (by kernel_rfl) (by kernel_rfl) (by kernel_rfl) (fun _ _ _ h => h) (Or.inl ⟨by rfl, fun w' hSw => by (have hk := (HK.out _ hSw).1; obtain ⟨ql, s0, s1, s2⟩ := hk; go_simp)⟩) hHeld ?_
    simp only [Act.put, List.setIfInBounds_toArray, List.set_cons_zero, List.set_cons_succ, List.getElem_cons_zero, List.getElem_cons_succ, List.getElem_toArray]
    refine wpAnyH_take (i := 9) (v := ptr H.mb) rfl (by kernel_rfl) (by kernel_rfl) (by kernel_rfl) (fun _ _ _ h => h) (Or.inl ⟨by rfl, fun w' hSw => by (go_simp)⟩) hHeld ?_
    simp only [Act.put, List.setIfInBounds_toArray, List.set_cons_zero, List.set_cons_succ, List.getElem_cons_zero, List.getElem_cons_succ, List.getElem_toArray]
    refine wpAnyH_take (i := 10) (v := ptr H.mb) rfl (by kernel_rfl) (by kernel_rfl) (by kernel_rfl) (fun _ _ _ h => h) (Or.inl ⟨by rfl, fun w' hSw => by (go_simp)⟩) hHeld ?_
    simp only [Act.put, List.setIfInBounds_toArray, List.set_cons_zero, List.set_cons_succ, List.getElem_cons_zero, List.getElem_cons_succ, List.getElem_toArray]
    refine wpAnyH_take (i := 11) (v := .pointer (some ⟨H.mb, 315, none⟩)) rfl (by kernel_rfl) (by kernel_rfl) (by kernel_rfl) (fun _ _ _ h => h) (Or.inl ⟨by rfl, fun w' hSw => by (go_simp)⟩) hHeld ?_
    simp only [Act.put, List.setIfInBounds_toArray, List.set_cons_zero, List.set_cons_succ, List.getElem_cons_zero, List.getElem_cons_succ, List.getElem_toArray]
    refine wpAnyH_take (i := 12) (v := .int .i64 (S2.s : Int)) rfl (by kernel_rfl) (by kernel_rfl) (by kernel_rfl) (fun _ _ _ h => h) (Or.inl ⟨by rfl, fun w' hSw => by (have hk := (HK.out _ hSw).1; obtain ⟨ql, s0, s1, s2⟩ := hk; go_simp)⟩) hHeld ?_
    simp only [Act.put, List.setIfInBounds_toArray, List.set_cons_zero, List.set_cons_succ, List.getElem_cons_zero, List.getElem_cons_succ, List.getElem_toArray]
    refine wpAnyH_ready (rs := [8, 14]) (by kernel_rfl) (by simp) ?_
    refine AllReadyH.cons rfl (fun K hK => ?_) (AllReadyH.cons rfl (fun K hK => ?_) AllReadyH.nil)
    · go_simp
      refine Calls.mono (HCl.out _ hHeld) ?_
      rintro e w2 ⟨vp, rfl, hc⟩
      have HX : Hid (Below w1.heap.size w1 w2) := (drew_up w1).trans hc.b
      obtain ⟨ao, c, rfl⟩ := row_slice hc.r
      have HF : Hid (w2.ownsRow w1.heap.size 2 1 (.slice ao S2.p.length c) S2.p.length (S2.p.map fun x => .int .i64 x)) := hc.r
      clear hc
      refine hK.out _ _ HX.out (fun hHeld => ?_)
      clear hK K
      refine wpAnyH_take (i := 13) (v := .agg #[.int .i64 S2.e, .int .i64 0, .slice ao S2.p.length c, .slice none 0 0, .int .i64 (S2.s : Int)]) rfl (by kernel_rfl) (by kernel_rfl) (by kernel_rfl) (fun _ _ _ h => h) (Or.inl ⟨by rfl, fun w' hSw => by (go_simp)⟩) hHeld ?_
      simp only [Act.put, List.setIfInBounds_toArray, List.set_cons_zero, List.set_cons_succ, List.getElem_cons_zero, List.getElem_cons_succ, List.getElem_toArray]
      refine wpAnyH_ready (rs := [14]) (by kernel_rfl) (by simp) ?_
      refine AllReadyH.cons rfl (fun K hK => ?_) AllReadyH.nil
      go_simp
      refine hK.out _ _ (Below.alloc HX.out HX.out.size _) (fun hHeld => ?_)
      clear hK K
      refine wpAnyH_ready (rs := [15]) (by kernel_rfl) (by simp) ?_
      refine AllReadyH.cons rfl (fun K hK => ?_) AllReadyH.nil
      go_simp
      refine hK.out _ _ (Below.alloc HX.out HX.out.size _) (fun hHeld => ?_)
      clear hK K
      refine wpAnyH_done (by kernel_rfl) ?_ _
      clear hHeld
      go_wp2_with fail
      go_meet
      exact ⟨_, _, rfl, HR.out _ _ _ _ _ (Below.alloc HX.out HX.out.size _) HX.out.size (At.new _ _ _) (Nat.le_refl _) (row_up HF.out ((Below.refl _ _).alloc (Nat.le_refl _) _)) (fun e => absurd (HF.out.lt _ e).2 (by omega)) (Below.refl _ _)⟩
    · go_simp
      have HX0 : Hid (Below w1.heap.size w1 (w1.alloc (.cells #[.int .i64 0, .int .i64 0, .slice none 0 0, .slice none 0 0, .int .i64 0] 42)).drew) := ((Below.refl _ _).alloc (Nat.le_refl _) _).drew
      refine hK.out _ _ HX0.out (fun hHeld => ?_)
      clear hK K
      have HAt : Hid (At (w1.alloc (.cells #[.int .i64 0, .int .i64 0, .slice none 0 0, .slice none 0 0, .int .i64 0] 42)).drew w1.heap.size #[.int .i64 0, .int .i64 0, .slice none 0 0, .slice none 0 0, .int .i64 0]) := (At.new w1 #[.int .i64 0, .int .i64 0, .slice none 0 0, .slice none 0 0, .int .i64 0] 42).below (drew_up _) (by simp)
      have HSz : Hid ((w1.alloc (.cells #[.int .i64 0, .int .i64 0, .slice none 0 0, .slice none 0 0, .int .i64 0] 42)).drew.heap.size = w1.heap.size + 1) := by show (w1.alloc (.cells #[.int .i64 0, .int .i64 0, .slice none 0 0, .slice none 0 0, .int .i64 0] 42)).heap.size = _; simp
      generalize (w1.alloc (.cells #[.int .i64 0, .int .i64 0, .slice none 0 0, .slice none 0 0, .int .i64 0] 42)).drew = A at *
      refine wpAnyH_ready (rs := [8]) (by kernel_rfl) (by simp) ?_
      refine AllReadyH.cons rfl (fun K hK => ?_) AllReadyH.nil
      go_simp
      refine Calls.mono (HCl.out _ hHeld) ?_
      rintro e w2 ⟨vp, rfl, hc⟩
      have HX : Hid (Below w1.heap.size w1 w2 ∧ At w2 w1.heap.size #[.int .i64 0, .int .i64 0, .slice none 0 0, .slice none 0 0, .int .i64 0]) := ⟨HX0.out.trans (hc.b.mono HX0.out.size), HAt.out.below hc.b HAt.out.lt⟩
      obtain ⟨ao, c, rfl⟩ := row_slice hc.r
      have HF : Hid (w2.ownsRow (w1.heap.size + 1) 2 1 (.slice ao S2.p.length c) S2.p.length (S2.p.map fun x => .int .i64 x)) := (by have := hc.r; rw [HSz.out] at this; exact this)
      clear hc
      refine hK.out _ _ HX.out.1 (fun hHeld => ?_)
      clear hK K
      refine wpAnyH_take (i := 13) (v := .agg #[.int .i64 S2.e, .int .i64 0, .slice ao S2.p.length c, .slice none 0 0, .int .i64 (S2.s : Int)]) rfl (by kernel_rfl) (by kernel_rfl) (by kernel_rfl) (fun _ _ _ h => h) (Or.inl ⟨by rfl, fun w' hSw => by (go_simp)⟩) hHeld ?_
      simp only [Act.put, List.setIfInBounds_toArray, List.set_cons_zero, List.set_cons_succ, List.getElem_cons_zero, List.getElem_cons_succ, List.getElem_toArray]
      have z0 := HX.out.2.c 0 _ rfl
      have z1 := HX.out.2.c 1 _ rfl
      have z2 := HX.out.2.c 2 _ rfl
      have z3 := HX.out.2.c 3 _ rfl
      have z4 := HX.out.2.c 4 _ rfl
      have zf := HX.out.2.f
      have zl := HX.out.2.lt
      refine wpAnyH_ready (rs := [15]) (by kernel_rfl) (by simp) ?_
      refine AllReadyH.cons rfl (fun K hK => ?_) AllReadyH.nil
      go_simp
      have HX5 : Hid (Below w1.heap.size w1 (((((w2.setCell ⟨w1.heap.size, 0, none⟩ (.int .i64 S2.e)).setCell ⟨w1.heap.size, 1, none⟩ (.int .i64 0)).setCell ⟨w1.heap.size, 2, none⟩ (.slice ao S2.p.length c)).setCell ⟨w1.heap.size, 3, none⟩ (.slice none 0 0)).setCell ⟨w1.heap.size, 4, none⟩ (.int .i64 (S2.s : Int))) ∧ Fr (One w1.heap.size) w2 (((((w2.setCell ⟨w1.heap.size, 0, none⟩ (.int .i64 S2.e)).setCell ⟨w1.heap.size, 1, none⟩ (.int .i64 0)).setCell ⟨w1.heap.size, 2, none⟩ (.slice ao S2.p.length c)).setCell ⟨w1.heap.size, 3, none⟩ (.slice none 0 0)).setCell ⟨w1.heap.size, 4, none⟩ (.int .i64 (S2.s : Int))) ∧ At (((((w2.setCell ⟨w1.heap.size, 0, none⟩ (.int .i64 S2.e)).setCell ⟨w1.heap.size, 1, none⟩ (.int .i64 0)).setCell ⟨w1.heap.size, 2, none⟩ (.slice ao S2.p.length c)).setCell ⟨w1.heap.size, 3, none⟩ (.slice none 0 0)).setCell ⟨w1.heap.size, 4, none⟩ (.int .i64 (S2.s : Int))) w1.heap.size #[.int .i64 S2.e, .int .i64 0, .slice ao S2.p.length c, .slice none 0 0, .int .i64 (S2.s : Int)]) := by
        have f : Fr (One w1.heap.size) w2 (((((w2.setCell ⟨w1.heap.size, 0, none⟩ (.int .i64 S2.e)).setCell ⟨w1.heap.size, 1, none⟩ (.int .i64 0)).setCell ⟨w1.heap.size, 2, none⟩ (.slice ao S2.p.length c)).setCell ⟨w1.heap.size, 3, none⟩ (.slice none 0 0)).setCell ⟨w1.heap.size, 4, none⟩ (.int .i64 (S2.s : Int))) := (((((Fr.refl (One w1.heap.size) w2).setCell (.inr rfl) _ _).setCell (.inr rfl) _ _).setCell (.inr rfl) _ _).setCell (.inr rfl) _ _).setCell (.inr rfl) _ _
        exact ⟨HX.out.1.trans (f.below HX.out.1.size fun b hb e => by have e : b = w1.heap.size := e; omega), f, At.setk (k := 4) (At.setk (k := 3) (At.setk (k := 2) (At.setk (k := 1) (At.setk (k := 0) HX.out.2 (by simp)) (by simp)) (by simp)) (by simp)) (by simp)⟩
      refine hK.out _ _ HX5.out.1 (fun hHeld => ?_)
      clear hK K z0 z1 z2 z3 z4 zf zl
      refine wpAnyH_done (by kernel_rfl) ?_ _
      clear hHeld
      generalize (((((w2.setCell ⟨w1.heap.size, 0, none⟩ (.int .i64 S2.e)).setCell ⟨w1.heap.size, 1, none⟩ (.int .i64 0)).setCell ⟨w1.heap.size, 2, none⟩ (.slice ao S2.p.length c)).setCell ⟨w1.heap.size, 3, none⟩ (.slice none 0 0)).setCell ⟨w1.heap.size, 4, none⟩ (.int .i64 (S2.s : Int))) = Z at *
      go_wp2_with fail
      go_meet
      exact ⟨_, _, rfl, HR.out _ _ _ _ (w1.heap.size + 1) HX5.out.1 (Nat.le_refl _) HX5.out.2.2 (by omega) (row_fr HF.out HX5.out.2.1 fun b e e2 => by have e2 : b = w1.heap.size := e2; have := (HF.out.lt b e).1; omega) (fun e => by have := (HF.out.lt _ e).1; omega) (Below.refl _ _)⟩
  case rest =>
    obtain ⟨bx, vp, rfl, hro⟩ := hcut
    obtain ⟨ao, c, rfl⟩ := row_slice hro.pr
    obtain ⟨H3, m3, t3, q3, n3, n4, n5⟩ := hro.mm
    have HRo : Hid (Ro w wc t bs H S2 bx (.slice ao S2.p.length c) ∧ Mch wc t bs H3 S2 ∧ Tn w H wc H3 ∧ H3.mb = H.mb ∧ ¬ own H3 w.heap.size ∧ ¬ own H3 bx ∧ ∀ b, (Value.slice ao S2.p.length c).ownBlock = some b → ¬ own H3 b) := ⟨hro, m3, t3, q3, n3, n4, n5⟩
    have e0 := m3.c.e
    have el := m3.c.lt
    rw [q3] at e0 el
    have hE := HE0.out
    have x0 := hro.x.c 0 _ rfl
    have x1 := hro.x.c 1 _ rfl
    have x2 := hro.x.c 2 _ rfl
    have x3 := hro.x.c 3 _ rfl
    have x4 := hro.x.c 4 _ rfl
    have xl := hro.x.lt
    have r0 := hro.r.c 0 _ rfl
    have r1 := hro.r.c 1 _ rfl
    have r2 := hro.r.c 2 _ rfl
    have r3 := hro.r.c 3 _ rfl
    have r4 := hro.r.c 4 _ rfl
    have rf := hro.r.f
    have rl := hro.r.lt
    clear hro m3 t3 q3 n3 n4 n5 HK HCl HR HM HA HG
    go_wp2_with fail
    have gF : Fr (One w.heap.size) wc (((((wc.setCell ⟨w.heap.size, 0, none⟩ (.int .i64 S2.e)).setCell ⟨w.heap.size, 1, none⟩ (.int .i64 0)).setCell ⟨w.heap.size, 2, none⟩ (.slice ao S2.p.length c)).setCell ⟨w.heap.size, 3, none⟩ (.slice none 0 0)).setCell ⟨w.heap.size, 4, none⟩ (.int .i64 (S2.s : Int))) := (((((Fr.refl (One w.heap.size) wc).setCell (.inr rfl) _ _).setCell (.inr rfl) _ _).setCell (.inr rfl) _ _).setCell (.inr rfl) _ _).setCell (.inr rfl) _ _
    have hz := HRo.out.2.2.1.f.size
    have tn : Tn w H (((((wc.setCell ⟨w.heap.size, 0, none⟩ (.int .i64 S2.e)).setCell ⟨w.heap.size, 1, none⟩ (.int .i64 0)).setCell ⟨w.heap.size, 2, none⟩ (.slice ao S2.p.length c)).setCell ⟨w.heap.size, 3, none⟩ (.slice none 0 0)).setCell ⟨w.heap.size, 4, none⟩ (.int .i64 (S2.s : Int))) H3 := ⟨HRo.out.2.2.1.f.trans gF fun b hb e => by
      have e : b = w.heap.size := e
      omega, HRo.out.2.2.1.t, HRo.out.2.2.1.q, HRo.out.2.2.1.a⟩
    have hp := HRo.out.1.pr
    refine bodyPost_ret (v := .agg #[.int .i64 S2.e, .int .i64 0, .slice ao S2.p.length c, .slice none 0 0, .int .i64 (S2.s : Int)]) (by simp [results, Tryd.results10, go_sem, r0, r1, r2, r3, r4]) rfl ⟨_, rfl, ?_, H3, HRo.out.2.1.aside gF (fun b e => by
      have e : b = w.heap.size := e
      rw [e]; exact HRo.out.2.2.2.2.1) (bF_go HB0.out tn tn.a), tn, HRo.out.2.2.2.2.2.2⟩
    have hp2 := row_fr hp gF fun b e e2 => by
      have := (hp.lt b e).1
      have e2 : b = w.heap.size := e2
      omega
    exact ⟨hp2.1, hp2.2.imp id fun ⟨g, cap, cur, k1, k2, k3⟩ => ⟨g, cap, cur, k1, by omega, k3⟩⟩
end
set_option maxHeartbeats 2000000 in
theorem new_no (ao ra ma : Option Addr) (n cap rl rc ml mc : Nat) (v : Nat → Int) (t : Tab) (w : World) (hx : Ws w ao n v) (hc : n ≤ cap) (hG : Tb.Bnds w) (hn : n ≤ 17592186044416) (h : deE t v n ≠ 0) :
    Calls Tryd.prog 9 #[.slice ao n cap, t.val, .agg #[.slice ra rl rc, .slice ma ml mc]] w fun e w' => e = .returned (.tuple #[.pointer none, .int .i64 (deE t v n)]) ∧ Below w.heap.size w w' := by
  have HD : Hid (∀ W, Below w.heap.size w W → Calls Tryd.prog 27 #[.slice ao n cap, t.val] W fun e w' => e = .returned (.tuple #[.slice none 0 0, .int .i64 (deE t v n)]) ∧ Below W.heap.size W w') := fun W hb => dec_no ao n cap v t W (hx.below hb) hc (hG.below hb hG.big) hn h
  clear hx hc hG hn
  unfold Tab.val at *
  generalize deE t v n = E at *
  go_enter Tryd.func9, Tryd.ntmps9
  go_wp2_with (first
    | (go_at_call 27; refine Calls.mono (HD.out _ (by go_grown)) ?_; rintro e w1 ⟨rfl, hb⟩; have HB : Hid (Below w.heap.size w w1) := (by go_grown : Below w.heap.size w ((w.alloc (.cells t.cells 25)).alloc (.cells #[.slice ra rl rc, .slice ma ml mc] 28))).trans (hb.mono (by simp; omega)); clear hb))
  go_ret2
  exact ⟨rfl, HB.out⟩
set_option maxHeartbeats 2000000 in
theorem new_long (ao ra ma : Option Addr) (n cap rl rc ml mc : Nat) (v : Nat → Int) (t : Tab) (w : World) (hx : Ws w ao n v) (hc : n ≤ cap) (hG : Tb.Bnds w) (hn : n ≤ 17592186044416) (h : deE t v n = 0) (hl : 32 < rl ∨ 256 < ml) :
    Calls Tryd.prog 9 #[.slice ao n cap, t.val, .agg #[.slice ra rl rc, .slice ma ml mc]] w fun e w' => e = .returned (.tuple #[.pointer none, .int .i64 2]) ∧ Below w.heap.size w w' := by
  have HD : Hid (Calls Tryd.prog 27 #[.slice ao n cap, t.val] ((w.alloc (.cells t.cells 25)).alloc (.cells #[.slice ra rl rc, .slice ma ml mc] 28)) fun e w' => ∃ b, e = .returned (.tuple #[.slice (some ⟨b, 0, none⟩) (n / ofs t 4) (n / ofs t 4), .int .i64 0]) ∧ At w' (w.heap.size + 1) #[.slice ra rl rc, .slice ma ml mc] ∧ Below w.heap.size w w') := by
    have hb : Below w.heap.size w ((w.alloc (.cells t.cells 25)).alloc (.cells #[.slice ra rl rc, .slice ma ml mc] 28)) := by go_grown
    refine (dec_yes ao n cap v t _ (hx.below hb) hc (hG.below hb hG.big) hn h).mono ?_
    rintro e w1 ⟨b, rfl, -, -, h4⟩
    obtain ⟨-, a2, hb2, -, -⟩ := two_new w t.cells #[.slice ra rl rc, .slice ma ml mc] 25 28 h4
    exact ⟨b, rfl, a2, hb2⟩
  clear hx hc hG hn h
  unfold Tab.val at *
  generalize n / ofs t 4 = cnt at *
  by_cases h1 : 32 < rl
  · have i1 : (32 : Int) < (rl : Int) := by omega
    clear hl
    go_enter Tryd.func9, Tryd.ntmps9
    go_wp2_with (first
      | (go_at_call 27; refine Calls.mono HD.out ?_; rintro e w1 ⟨b, rfl, ha, hb⟩; have HB : Hid (Below w.heap.size w w1) := hb; have s0 := ha.c 0 _ rfl; have s1 := ha.c 1 _ rfl; have sl := ha.lt; clear ha hb))
    go_ret2
    exact ⟨rfl, HB.out⟩
  · have i1 : ¬ (32 : Int) < (rl : Int) := by omega
    have i2 : (256 : Int) < (ml : Int) := by omega
    clear hl
    go_enter Tryd.func9, Tryd.ntmps9
    go_wp2_with (first
      | (go_at_call 27; refine Calls.mono HD.out ?_; rintro e w1 ⟨b, rfl, ha, hb⟩; have HB : Hid (Below w.heap.size w w1) := hb; have s0 := ha.c 0 _ rfl; have s1 := ha.c 1 _ rfl; have sl := ha.lt; clear ha hb))
    go_ret2
    exact ⟨rfl, HB.out⟩
end Go.Proofs.YtldfjlepbbmhnaaDoor.Pp
namespace Go.Proofs.YtldfjlepbbmhnaaDoor.Pp
open Go.ChangeShapes Go.WideShapes Go.ChangeAt Go.RowKit
open _root_.Go.Proofs.YtldfjlepbbmhnaaDoor.Op _root_.Go.Proofs.YtldfjlepbbmhnaaDoor.So _root_.Go.Proofs.YtldfjlepbbmhnaaDoor.Bu
open _root_.Go.Proofs.YtldfjlepbbmhnaaDoor.Tb (Tab TabAt Bnds)
set_option maxRecDepth 20000

def rL (S : PM) : List Int := (List.range 32).map S.r
def mL (S : PM) : List Int := (List.range 256).map S.m
theorem nums_r (S : PM) : ((List.range 32).map fun k => (.int .i64 (S.r k) : Value)) = nums (rL S) := by unfold nums rL; rw [List.map_map]; rfl
theorem nums_m (S : PM) : ((List.range 256).map fun k => (.int .i64 (S.m k) : Value)) = nums (mL S) := by unfold nums mL; rw [List.map_map]; rfl
theorem rL_len (S : PM) : (rL S).length = 32 := by simp [rL]
theorem mL_len (S : PM) : (mL S).length = 256 := by simp [mL]
theorem row_le {W : World} {B B' e z n : Nat} {v : Value} {xs : List Value} (h : W.ownsRow B e z v n xs) (hB : B' ≤ B) : W.ownsRow B' e z v n xs := ⟨h.1, h.2.imp id fun ⟨g, cap, cur, k1, k2, k3⟩ => ⟨g, cap, cur, k1, Nat.le_trans hB k2, k3⟩⟩
theorem row_cell' {W : World} {B e z g n c : Nat} {xs : List Value} (h : W.ownsRow B e z (.slice (some ⟨g, 0, none⟩) n c) n xs) {j : Nat} {u : Value} (hj : xs[j]? = some u) : W.cell? ⟨g, j, none⟩ = some u := by
  have := h.cells (g := g) rfl j u hj
  rw [add_at', Nat.zero_add] at this
  exact this
/-- A row of numbers is a list of numbers in memory. -/
theorem nl_row {W : World} {B n c : Nat} {ao : Option Addr} {l : List Int} (h : W.ownsRow B 2 1 (.slice ao n c) n (nums l)) (hn : n = l.length) : NL W ao l := by
  refine ⟨fun h0 => ?_⟩
  rcases h.2 with ⟨h1, h2⟩ | ⟨g, cap, cur, h1, h2, h3⟩
  · omega
  · injection h1 with h1
    subst h1
    exact ⟨g, 0, rfl, (h.lt g rfl).2, fun i hi => by rw [Nat.zero_add]; exact row_cell' h (nums_get l i hi)⟩
section
variable {w : World} {t : Tab} {bs : List Bn} {H : Hx} {S : PM}
/-- What State answers. -/
def StOut (w : World) (S : PM) (e : Ending) (w' : World) : Prop := ∃ vr vm, e = .returned (.agg #[vr, vm]) ∧ w'.ownsRow w.heap.size 2 1 vr 32 (nums (rL S)) ∧ w'.ownsRow w.heap.size 2 1 vm 256 (nums (mL S)) ∧ Below w.heap.size w w'
set_option maxHeartbeats 4000000 in
theorem state_any (h : Mch w t bs H S) : Calls Tryd.prog 13 #[ptr H.mb] w (StOut w S) := by
  have HB1 : Hid (Below w.heap.size w (w.alloc (.cells #[.slice none 0 0, .slice none 0 0] 28))) := (Below.refl _ _).alloc (Nat.le_refl _) _
  have HA : Hid (At (w.alloc (.cells #[.slice none 0 0, .slice none 0 0] 28)) w.heap.size #[.slice none 0 0, .slice none 0 0]) := At.new _ _ _
  have HM : Hid (Mch (w.alloc (.cells #[.slice none 0 0, .slice none 0 0] 28)) t bs H S ∧ ¬ own H w.heap.size) := ⟨h.up HB1.out, fun e => absurd (own_lt h e) (by omega)⟩
  have HF0 : Hid (∀ V, Fr (own H) w V → BsAt V H.ba bs) := h.bF
  clear h
  go_enter Tryd.func13, Tryd.ntmps13
  go_upto_region 3 with fail
  generalize w.alloc (.cells #[.slice none 0 0, .slice none 0 0] 28) = w1 at *
  have HCr : Hid (∀ V, Below w1.heap.size w1 V → Calls Tryd.prog 29 #[.slice (some ⟨H.mb, 14, none⟩) 32 32] V fun e w' => ∃ v', e = .returned v' ∧ Cf V w' v' 32 (nums (rL S))) := fun V hV => by
    have := clone_regs (HM.out.1.up hV).c
    rw [nums_r] at this
    exact this
  have HCm : Hid (∀ V, Below w1.heap.size w1 V → Calls Tryd.prog 29 #[.slice (some ⟨H.mb, 46, none⟩) 256 256] V fun e w' => ∃ v', e = .returned v' ∧ Cf V w' v' 256 (nums (mL S))) := fun V hV => by
    have := clone_mem (HM.out.1.up hV).c
    rw [nums_m] at this
    exact this
  refine wp_region_held_drew (S := fun W' => True) (by kernel_rfl) trivial (fun hHeld => ?_)
  refine wpAnyH_take (i := 0) (v := ptr H.mb) rfl (by kernel_rfl) (by kernel_rfl) (by kernel_rfl) (fun _ _ _ h => h) (Or.inl ⟨by rfl, fun w' hSw => by (go_simp)⟩) hHeld ?_
  simp only [Act.put, List.setIfInBounds_toArray, List.set_cons_zero, List.set_cons_succ, List.getElem_cons_zero, List.getElem_toArray]
  refine wpAnyH_take (i := 1) (v := ptr H.mb) rfl (by kernel_rfl) (by kernel_rfl) (by kernel_rfl) (fun _ _ _ h => h) (Or.inl ⟨by rfl, fun w' hSw => by (go_simp)⟩) hHeld ?_
  simp only [Act.put, List.setIfInBounds_toArray, List.set_cons_zero, List.set_cons_succ, List.getElem_cons_zero, List.getElem_cons_succ, List.getElem_toArray]
  refine wpAnyH_take (i := 2) (v := .pointer (some ⟨H.mb, 14, none⟩)) rfl (by kernel_rfl) (by kernel_rfl) (by kernel_rfl) (fun _ _ _ h => h) (Or.inl ⟨by rfl, fun w' hSw => by (go_simp)⟩) hHeld ?_
  simp only [Act.put, List.setIfInBounds_toArray, List.set_cons_zero, List.set_cons_succ, List.getElem_cons_zero, List.getElem_cons_succ, List.getElem_toArray]
  refine wpAnyH_take (i := 3) (v := .slice (some ⟨H.mb, 14, none⟩) 32 32) rfl (by kernel_rfl) (by kernel_rfl) (by kernel_rfl) (fun _ _ _ h => h) (Or.inl ⟨by rfl, fun w' hSw => by (go_simp)⟩) hHeld ?_
  simp only [Act.put, List.setIfInBounds_toArray, List.set_cons_zero, List.set_cons_succ, List.getElem_cons_zero, List.getElem_cons_succ, List.getElem_toArray]
  refine wpAnyH_take (i := 5) (v := ptr H.mb) rfl (by kernel_rfl) (by kernel_rfl) (by kernel_rfl) (fun _ _ _ h => h) (Or.inl ⟨by rfl, fun w' hSw => by (go_simp)⟩) hHeld ?_
  simp only [Act.put, List.setIfInBounds_toArray, List.set_cons_zero, List.set_cons_succ, List.getElem_cons_zero, List.getElem_cons_succ, List.getElem_toArray]
  refine wpAnyH_take (i := 6) (v := ptr H.mb) rfl (by kernel_rfl) (by kernel_rfl) (by kernel_rfl) (fun _ _ _ h => h) (Or.inl ⟨by rfl, fun w' hSw => by (go_simp)⟩) hHeld ?_
  simp only [Act.put, List.setIfInBounds_toArray, List.set_cons_zero, List.set_cons_succ, List.getElem_cons_zero, List.getElem_cons_succ, List.getElem_toArray]
  refine wpAnyH_take (i := 7) (v := .pointer (some ⟨H.mb, 46, none⟩)) rfl (by kernel_rfl) (by kernel_rfl) (by kernel_rfl) (fun _ _ _ h => h) (Or.inl ⟨by rfl, fun w' hSw => by (go_simp)⟩) hHeld ?_
  simp only [Act.put, List.setIfInBounds_toArray, List.set_cons_zero, List.set_cons_succ, List.getElem_cons_zero, List.getElem_cons_succ, List.getElem_toArray]
  refine wpAnyH_take (i := 8) (v := .slice (some ⟨H.mb, 46, none⟩) 256 256) rfl (by kernel_rfl) (by kernel_rfl) (by kernel_rfl) (fun _ _ _ h => h) (Or.inl ⟨by rfl, fun w' hSw => by (go_simp)⟩) hHeld ?_
  simp only [Act.put, List.setIfInBounds_toArray, List.set_cons_zero, List.set_cons_succ, List.getElem_cons_zero, List.getElem_cons_succ, List.getElem_toArray]
  refine wpAnyH_ready (rs := [4]) (by kernel_rfl) (by simp) ?_
  have hD : Below w1.heap.size w1 w1.drew := drew_up w1
  refine AllReadyH.cons rfl (fun K hK => ?_) AllReadyH.nil
  go_simp
  refine Calls.mono (HCr.out _ hD) ?_
  rintro e w2 ⟨vr, rfl, hc⟩
  have h2 : Below w1.heap.size w1 w2 := hD.trans (hc.b.mono hD.size)
  have HR2 : Hid (w2.ownsRow w1.heap.size 2 1 vr 32 (nums (rL S))) := row_le hc.r hD.size
  clear hc
  refine hK.out _ _ trivial (fun hHeld => ?_)
  clear hK K
  refine wpAnyH_ready (rs := [9]) (by kernel_rfl) (by simp) ?_
  refine AllReadyH.cons rfl (fun K hK => ?_) AllReadyH.nil
  go_simp
  refine Calls.mono (HCm.out _ h2) ?_
  rintro e w3 ⟨vm, rfl, hc⟩
  have h3 : Below w1.heap.size w1 w3 := h2.trans (hc.b.mono h2.size)
  have HXX : Hid (Below w1.heap.size w1 w3 ∧ w3.ownsRow w1.heap.size 2 1 vr 32 (nums (rL S)) ∧ w3.ownsRow w1.heap.size 2 1 vm 256 (nums (mL S))) := ⟨h3, row_up HR2.out hc.b, row_le hc.r h2.size⟩
  clear hc
  refine hK.out _ _ trivial (fun hHeld => ?_)
  clear hK K h2 h3
  obtain ⟨ro, rc, rfl⟩ := row_slice HXX.out.2.1
  obtain ⟨mo, mc, rfl⟩ := row_slice HXX.out.2.2
  refine wpAnyH_take (i := 10) (v := .agg #[.slice ro 32 rc, .slice mo 256 mc]) rfl (by kernel_rfl) (by kernel_rfl) (by kernel_rfl) (fun _ _ _ h => h) (Or.inl ⟨by rfl, fun w' hSw => by (go_simp)⟩) hHeld ?_
  simp only [Act.put, List.setIfInBounds_toArray, List.set_cons_zero, List.set_cons_succ, List.getElem_cons_zero, List.getElem_cons_succ, List.getElem_toArray]
  have HA3 : Hid (At w3 w.heap.size #[.slice none 0 0, .slice none 0 0]) := HA.out.below HXX.out.1 HA.out.lt
  have z0 := HA3.out.c 0 _ rfl
  have z1 := HA3.out.c 1 _ rfl
  have zf := HA3.out.f
  have zl := HA3.out.lt
  refine wpAnyH_ready (rs := [11]) (by kernel_rfl) (by simp) ?_
  refine AllReadyH.cons rfl (fun K hK => ?_) AllReadyH.nil
  go_simp
  have f3 : Fr (One w.heap.size) w3 ((w3.setCell ⟨w.heap.size, 0, none⟩ (.slice ro 32 rc)).setCell ⟨w.heap.size, 1, none⟩ (.slice mo 256 mc)) := ((Fr.refl (One w.heap.size) w3).setCell (.inr rfl) _ _).setCell (.inr rfl) _ _
  have HY : Hid (Below w.heap.size w ((w3.setCell ⟨w.heap.size, 0, none⟩ (.slice ro 32 rc)).setCell ⟨w.heap.size, 1, none⟩ (.slice mo 256 mc)) ∧ At ((w3.setCell ⟨w.heap.size, 0, none⟩ (.slice ro 32 rc)).setCell ⟨w.heap.size, 1, none⟩ (.slice mo 256 mc)) w.heap.size #[.slice ro 32 rc, .slice mo 256 mc] ∧ ((w3.setCell ⟨w.heap.size, 0, none⟩ (.slice ro 32 rc)).setCell ⟨w.heap.size, 1, none⟩ (.slice mo 256 mc)).ownsRow w1.heap.size 2 1 (.slice ro 32 rc) 32 (nums (rL S)) ∧ ((w3.setCell ⟨w.heap.size, 0, none⟩ (.slice ro 32 rc)).setCell ⟨w.heap.size, 1, none⟩ (.slice mo 256 mc)).ownsRow w1.heap.size 2 1 (.slice mo 256 mc) 256 (nums (mL S))) := by
    have hlt := HA.out.lt
    exact ⟨HB1.out.trans ((HXX.out.1.mono (Nat.le_of_lt hlt)).trans (f3.below (Nat.le_of_lt HA3.out.lt) fun b hb e => by have e : b = w.heap.size := e; omega)), At.setk (k := 1) (At.setk (k := 0) HA3.out (by simp)) (by simp), row_fr HXX.out.2.1 f3 fun b e e2 => by have e2 : b = w.heap.size := e2; have := (HXX.out.2.1.lt b e).1; omega, row_fr HXX.out.2.2 f3 fun b e e2 => by have e2 : b = w.heap.size := e2; have := (HXX.out.2.2.lt b e).1; omega⟩
  generalize (w3.setCell ⟨w.heap.size, 0, none⟩ (.slice ro 32 rc)).setCell ⟨w.heap.size, 1, none⟩ (.slice mo 256 mc) = Y at *
  refine hK.out _ _ trivial (fun hHeld => ?_)
  clear hK K z0 z1 zf zl
  refine wpAnyH_done (by kernel_rfl) ?_ _
  clear hHeld f3
  have z0 := HY.out.2.1.c 0 _ rfl
  have z1 := HY.out.2.1.c 1 _ rfl
  go_wp2_with fail
  exact bodyPost_ret (v := .agg #[.slice ro 32 rc, .slice mo 256 mc]) (by simp [results, Tryd.results13, go_sem, z0, z1]) rfl ⟨_, _, rfl, row_le HY.out.2.2.1 (Nat.le_of_lt HA.out.lt), row_le HY.out.2.2.2 (Nat.le_of_lt HA.out.lt), HY.out.1⟩
end
set_option maxHeartbeats 2000000 in
theorem nums_same (a b : Option Addr) (c d : Nat) (l : List Int) (w : World) (ha : NL w a l) (hb : NL w b l) (hl : l.length ≤ 1000000000000) : Calls Tryd.prog 19 #[.slice a l.length c, .slice b l.length d] w fun e w' => e = .returned (.bool true) ∧ Below w.heap.size w w' := by
  have HA : Hid _ := ha
  have HB : Hid _ := hb
  have hlz : (l.length : Int) ≤ 1000000000000 := by omega
  clear ha hb
  go_enter Tryd.func19, Tryd.ntmps19
  go_wp2_with fail
  go_loopw [5] (fun i wr => ∃ k : Nat, k ≤ l.length ∧ i = .int .i64 k ∧ Below w.heap.size w wr) (fun i _ => l.length - (intOf i).toNat)
  case atStart => exact ⟨0, by omega, rfl, Below.refl _ _⟩
  case round =>
    rename World => wr
    obtain ⟨k, hk, rfl, hbw⟩ := hrel
    by_cases hlt : k < l.length
    · obtain ⟨b1, f1, rfl, z1, x1⟩ := (HA.out.up hbw).is (by omega)
      obtain ⟨b2, f2, rfl, z2, x2⟩ := (HB.out.up hbw).is (by omega)
      have c1 := x1 k hlt
      have c2 := x2 k hlt
      have HW : Hid (Below w.heap.size w wr) := hbw
      clear x1 x2 hbw HA HB
      generalize l[k] = v at *
      go_wp2_with fail
      go_quiet (fail)
      go_wp2_with fail
      go_roundw
      case rel => exact ⟨k + 1, by omega, by go_num, drewN_below HW.out _⟩
      case measure => simp [intOf]; omega
    · obtain rfl : k = l.length := by omega
      go_wp2_with fail
      go_ret
      exact ⟨rfl, hbw⟩
/-- Lists of register numbers in memory. -/
def numsB (l : List Nat) : List Value := l.map fun (x : Nat) => (Value.int .u8 (x : Int))
structure NB (w : World) (ao : Option Addr) (l : List Nat) : Prop where
  is : 0 < l.length → ∃ b f, ao = some ⟨b, f, none⟩ ∧ b < w.heap.size ∧ ∀ (i : Nat) (h : i < l.length), w.cell? ⟨b, f + i, none⟩ = some (.int .u8 (l[i] : Int))
theorem NB.up {w w' : World} {ao : Option Addr} {l : List Nat} (h : NB w ao l) (hb : Below w.heap.size w w') : NB w' ao l := by
  refine ⟨fun h0 => ?_⟩
  obtain ⟨b, f, e, z, hc⟩ := h.is h0
  exact ⟨b, f, e, Nat.lt_of_lt_of_le z hb.size, fun i hi => by rw [((Fr.of (X := Non) hb).cell z (fun e => e) _)]; exact hc i hi⟩
theorem nb_row {W : World} {B n c : Nat} {ao : Option Addr} {l : List Nat} (h : W.ownsRow B 5 1 (.slice ao n c) n (numsB l)) (hn : n = l.length) : NB W ao l := by
  refine ⟨fun h0 => ?_⟩
  rcases h.2 with ⟨h1, h2⟩ | ⟨g, cap, cur, h1, h2, h3⟩
  · omega
  · injection h1 with h1
    subst h1
    exact ⟨g, 0, rfl, (h.lt g rfl).2, fun i hi => by rw [Nat.zero_add]; exact row_cell' h (by simp [numsB, hi])⟩
set_option maxHeartbeats 2000000 in
theorem regs_same (a b : Option Addr) (c d : Nat) (l : List Nat) (w : World) (ha : NB w a l) (hb : NB w b l) (hl : l.length ≤ 1000000000000) : Calls Tryd.prog 16 #[.slice a l.length c, .slice b l.length d] w fun e w' => e = .returned (.bool true) ∧ Below w.heap.size w w' := by
  have HA : Hid _ := ha
  have HB : Hid _ := hb
  have hlz : (l.length : Int) ≤ 1000000000000 := by omega
  clear ha hb
  go_enter Tryd.func16, Tryd.ntmps16
  go_wp2_with fail
  go_loopw [5] (fun i wr => ∃ k : Nat, k ≤ l.length ∧ i = .int .i64 k ∧ Below w.heap.size w wr) (fun i _ => l.length - (intOf i).toNat)
  case atStart => exact ⟨0, by omega, rfl, Below.refl _ _⟩
  case round =>
    rename World => wr
    obtain ⟨k, hk, rfl, hbw⟩ := hrel
    by_cases hlt : k < l.length
    · obtain ⟨b1, f1, rfl, z1, x1⟩ := (HA.out.up hbw).is (by omega)
      obtain ⟨b2, f2, rfl, z2, x2⟩ := (HB.out.up hbw).is (by omega)
      have c1 := x1 k hlt
      have c2 := x2 k hlt
      have HW : Hid (Below w.heap.size w wr) := hbw
      clear x1 x2 hbw HA HB
      generalize (l[k] : Int) = v at *
      go_wp2_with fail
      go_quiet (fail)
      go_wp2_with fail
      go_roundw
      case rel => exact ⟨k + 1, by omega, by go_num, drewN_below HW.out _⟩
      case measure => simp [intOf]; omega
    · obtain rfl : k = l.length := by omega
      go_wp2_with fail
      go_ret
      exact ⟨rfl, hbw⟩
/-- Outcomes in memory that are the same are found so. -/
theorem out_same (e v s : Int) (a b m k : Option Addr) (c d c' d' : Nat) (pr me : List Int) (w : World) (ha : NL w a pr) (hb : NL w b pr) (hm : NL w m me) (hk : NL w k me) (h1 : pr.length ≤ 1000000000000) (h2 : me.length ≤ 1000000000000) :
    Calls Tryd.prog 11 #[.agg #[.int .i64 e, .int .i64 v, .slice a pr.length c, .slice m me.length d, .int .i64 s], .agg #[.int .i64 e, .int .i64 v, .slice b pr.length c', .slice k me.length d', .int .i64 s]] w fun e w' => e = .returned (.bool true) ∧ Below w.heap.size w w' := by
  have HP : Hid (∀ W, Below w.heap.size w W → Calls Tryd.prog 19 #[.slice a pr.length c, .slice b pr.length c'] W fun e w' => e = .returned (.bool true) ∧ Below W.heap.size W w') := fun W hW => nums_same a b c c' pr W (ha.up hW) (hb.up hW) h1
  have HM : Hid (∀ W, Below w.heap.size w W → Calls Tryd.prog 19 #[.slice m me.length d, .slice k me.length d'] W fun e w' => e = .returned (.bool true) ∧ Below W.heap.size W w') := fun W hW => nums_same m k d d' me W (hm.up hW) (hk.up hW) h2
  clear ha hb hm hk h1 h2
  generalize pr.length = pl at *
  generalize me.length = ml at *
  have HT : Hid (∀ {w' : World}, Below ((w.alloc (.cells #[.int .i64 e, .int .i64 v, .slice a pl c, .slice m ml d, .int .i64 s] 42)).alloc (.cells #[.int .i64 e, .int .i64 v, .slice b pl c', .slice k ml d', .int .i64 s] 42)).heap.size ((w.alloc (.cells #[.int .i64 e, .int .i64 v, .slice a pl c, .slice m ml d, .int .i64 s] 42)).alloc (.cells #[.int .i64 e, .int .i64 v, .slice b pl c', .slice k ml d', .int .i64 s] 42)) w' → Op.At w' w.heap.size #[.int .i64 e, .int .i64 v, .slice a pl c, .slice m ml d, .int .i64 s] ∧ Op.At w' (w.heap.size + 1) #[.int .i64 e, .int .i64 v, .slice b pl c', .slice k ml d', .int .i64 s] ∧ Below w.heap.size w w') := fun {w'} hb => by
    obtain ⟨h1, h2, h3, -⟩ := two_new w #[.int .i64 e, .int .i64 v, .slice a pl c, .slice m ml d, .int .i64 s] #[.int .i64 e, .int .i64 v, .slice b pl c', .slice k ml d', .int .i64 s] 42 42 hb
    exact ⟨h1, h2, h3⟩
  go_enter Tryd.func11, Tryd.ntmps11
  go_wp2_with (first
    | (go_at_call 19; refine Calls.mono (HP.out _ (by go_grown)) ?_; rintro e' w1 ⟨rfl, hb⟩; obtain ⟨x1, x2, x3⟩ := HT.out hb; have HB : Hid (Below w.heap.size w w1) := x3; have y1 := x1.c 3 _ rfl; have y2 := x2.c 3 _ rfl; clear hb x1 x2 x3 HP HT)
    | (go_at_call 19; refine Calls.mono (HM.out _ HB.out) ?_; rintro e' w2 ⟨rfl, hb⟩; have HB2 : Hid (Below w.heap.size w w2) := HB.out.trans (hb.mono HB.out.size); clear hb HM))
  go_ret
  exact ⟨rfl, HB2.out⟩
/-- States in memory that are the same are found so. -/
theorem states_same (a b m k : Option Addr) (c d c' d' : Nat) (pr me : List Int) (w : World) (ha : NL w a pr) (hb : NL w b pr) (hm : NL w m me) (hk : NL w k me) (h1 : pr.length ≤ 1000000000000) (h2 : me.length ≤ 1000000000000) :
    Calls Tryd.prog 14 #[.agg #[.slice a pr.length c, .slice m me.length d], .agg #[.slice b pr.length c', .slice k me.length d']] w fun e w' => e = .returned (.bool true) ∧ Below w.heap.size w w' := by
  have HP : Hid (∀ W, Below w.heap.size w W → Calls Tryd.prog 19 #[.slice a pr.length c, .slice b pr.length c'] W fun e w' => e = .returned (.bool true) ∧ Below W.heap.size W w') := fun W hW => nums_same a b c c' pr W (ha.up hW) (hb.up hW) h1
  have HM : Hid (∀ W, Below w.heap.size w W → Calls Tryd.prog 19 #[.slice m me.length d, .slice k me.length d'] W fun e w' => e = .returned (.bool true) ∧ Below W.heap.size W w') := fun W hW => nums_same m k d d' me W (hm.up hW) (hk.up hW) h2
  clear ha hb hm hk h1 h2
  generalize pr.length = pl at *
  generalize me.length = ml at *
  have HT : Hid (∀ {w' : World}, Below ((w.alloc (.cells #[.slice a pl c, .slice m ml d] 28)).alloc (.cells #[.slice b pl c', .slice k ml d'] 28)).heap.size ((w.alloc (.cells #[.slice a pl c, .slice m ml d] 28)).alloc (.cells #[.slice b pl c', .slice k ml d'] 28)) w' → Op.At w' w.heap.size #[.slice a pl c, .slice m ml d] ∧ Op.At w' (w.heap.size + 1) #[.slice b pl c', .slice k ml d'] ∧ Below w.heap.size w w') := fun {w'} hb => by
    obtain ⟨h1, h2, h3, -⟩ := two_new w #[.slice a pl c, .slice m ml d] #[.slice b pl c', .slice k ml d'] 28 28 hb
    exact ⟨h1, h2, h3⟩
  go_enter Tryd.func14, Tryd.ntmps14
  go_wp2_with (first
    | (go_at_call 19; refine Calls.mono (HP.out _ (by go_grown)) ?_; rintro e' w1 ⟨rfl, hb⟩; obtain ⟨x1, x2, x3⟩ := HT.out hb; have HB : Hid (Below w.heap.size w w1) := x3; have y1 := x1.c 1 _ rfl; have y2 := x2.c 1 _ rfl; clear hb x1 x2 x3 HP HT)
    | (go_at_call 19; refine Calls.mono (HM.out _ HB.out) ?_; rintro e' w2 ⟨rfl, hb⟩; have HB2 : Hid (Below w.heap.size w w2) := HB.out.trans (hb.mono HB.out.size); clear hb HM))
  go_ret
  exact ⟨rfl, HB2.out⟩
end Go.Proofs.YtldfjlepbbmhnaaDoor.Pp
namespace Go.Proofs.YtldfjlepbbmhnaaDoor.Pp
open Go.ChangeShapes Go.WideShapes Go.ChangeAt Go.RowKit
open _root_.Go.Proofs.YtldfjlepbbmhnaaDoor.Op _root_.Go.Proofs.YtldfjlepbbmhnaaDoor.So _root_.Go.Proofs.YtldfjlepbbmhnaaDoor.Bu
open _root_.Go.Proofs.YtldfjlepbbmhnaaDoor.Tb (Tab TabAt Bnds)
set_option maxRecDepth 20000

/-- Whether something in a row goes to a register. -/
def occ (l : List F) (k : Nat) : Bool := l.any fun x => decide (x.w = 0) && decide (x.n = (k : Int))
def goB (S : PM) : Nat → Nat → Bool
  | 0, _ => false
  | i + 1, k => goB S i k || occ (S.f i) k
def goP (S : PM) (i j k : Nat) : Bool := goB S i k || occ ((S.f i).take j) k
def flyL (S : PM) : List Nat := (List.range 32).filter (goB S 8)
def gC (f : Nat → Bool) : List Value := (List.range 32).map fun k => .bool (f k)
def zb32 : List Value := List.replicate 32 (.bool false)
theorem zb_lit : zb32.toArray = #[.bool false, .bool false, .bool false, .bool false, .bool false, .bool false, .bool false, .bool false, .bool false, .bool false, .bool false, .bool false, .bool false, .bool false, .bool false, .bool false, .bool false, .bool false, .bool false, .bool false, .bool false, .bool false, .bool false, .bool false, .bool false, .bool false, .bool false, .bool false, .bool false, .bool false, .bool false, .bool false] := by kernel_rfl
theorem zb_gc : zb32 = gC fun _ => false := by kernel_rfl
theorem gC_len (f : Nat → Bool) : (gC f).length = 32 := by simp [gC]
theorem gC_at (f : Nat → Bool) {k : Nat} (h : k < 32) : (gC f)[k]? = some (.bool (f k)) := by
  unfold gC
  rw [List.getElem?_map, List.getElem?_range h]
  rfl
theorem gC_ext {f g : Nat → Bool} (h : ∀ k, k < 32 → f k = g k) : gC f = gC g := List.map_congr_left fun k hk => by rw [h k (by simpa using hk)]
theorem gC_set (f : Nat → Bool) {k : Nat} (h : k < 32) : (gC f).set k (.bool true) = gC fun j => f j || decide (j = k) := by
  refine List.ext_getElem? fun j => ?_
  by_cases hj : j < 32
  · rw [gC_at _ hj]
    by_cases e : k = j
    · subst e
      rw [List.getElem?_set_self (by rw [gC_len]; exact h)]
      simp
    · rw [List.getElem?_set_ne e, gC_at _ hj]
      have : ¬ j = k := fun e' => e e'.symm
      simp [this]
  · rw [List.getElem?_eq_none (by rw [List.length_set, gC_len]; omega), List.getElem?_eq_none (by rw [gC_len]; omega)]
theorem occ_snoc (l : List F) (x : F) (k : Nat) : occ (l ++ [x]) k = (occ l k || (decide (x.w = 0) && decide (x.n = (k : Int)))) := by simp [occ]
theorem goP_zero (S : PM) (i k : Nat) : goP S i 0 k = goB S i k := by simp [goP, occ]
theorem goP_all (S : PM) (i k : Nat) : goP S i (S.f i).length k = goB S (i + 1) k := by simp [goP, goB]
theorem goP_succ (S : PM) {i j : Nat} {x : F} (h : (S.f i)[j]? = some x) (k : Nat) : goP S i (j + 1) k = (goP S i j k || (decide (x.w = 0) && decide (x.n = (k : Int)))) := by
  have hl : j < (S.f i).length := (List.getElem?_eq_some_iff.1 h).1
  unfold goP
  rw [List.take_succ_eq_append_getElem hl, occ_snoc, Bool.or_assoc]
  rw [List.getElem?_eq_getElem hl] at h
  rw [Option.some.inj h]
theorem at_set {W : World} {b : Nat} {cs : List Value} (h : At W b cs.toArray) {k : Nat} (hk : k < cs.length) (v : Value) : At (W.setCell ⟨b, k, none⟩ v) b (cs.set k v).toArray := by
  refine ⟨fun j u hj => ?_, fun j => by rw [World.frozen?_setCell]; exact h.f j, by simpa using h.lt⟩
  rw [List.getElem?_toArray] at hj
  by_cases e : k = j
  · subst e
    rw [List.getElem?_set_self hk] at hj
    cases hj
    exact World.cell?_setCell_same _ _ _ (h.c k _ (by rw [List.getElem?_toArray, List.getElem?_eq_getElem hk]))
  · rw [List.getElem?_set_ne e] at hj
    rw [World.cell?_setCell_other]
    · exact h.c j u (by rw [List.getElem?_toArray]; exact hj)
    · intro h'; injection h' with _ h2; exact e h2
theorem at_range {W : World} {b : Nat} {cs : List Value} (h : At W b cs.toArray) : W.rangeAt b 0 cs := fun j v hv => by
  rw [Nat.zero_add]; exact h.c j v (by rw [List.getElem?_toArray]; exact hv)
theorem info116 : (Tryd.prog.info? 116).map (·.size) = some 32 := by kernel_rfl
theorem idx116 (C : List Value) (b : Bool) (k : Nat) (hk : k < 32) (h : C[k]? = some (.bool b)) (w : World) : (Instr.index 116 (.agg C.toArray) (.int .i64 (k : Int))).run Tryd.prog w = .ok (.bool b) w := by
  have hu := Tryd.underlying116
  have hi : (Tryd.prog.info? 4).map (fun i => (i.zero, i.size)) = some (some (.bool false), 1) := by kernel_rfl
  obtain ⟨i1, hi1, hi2⟩ := Option.map_eq_some_iff.1 hi
  simp only [Prod.mk.injEq] at hi2
  simp [Instr.index, run_underlying hu, asIntOf, part, sizeOf, typeInfo, hi1, hi2, h, go_sem]
  exact fun h' => absurd hk (by omega)
/-- Where registers has come to. -/
structure Rg (w W : World) (f : Nat → Bool) : Prop where
  a : At W w.heap.size (gC f).toArray
  up : Below w.heap.size w W
theorem Rg.next {w W W' : World} {f : Nat → Bool} (h : Rg w W f) (g : Below W.heap.size W W') : Rg w W' f := ⟨h.a.below g h.a.lt, h.up.trans (g.mono h.up.size)⟩
theorem Rg.ext {w W : World} {f g : Nat → Bool} (h : Rg w W f) (e : ∀ k, k < 32 → f k = g k) : Rg w W g := ⟨by rw [← gC_ext e]; exact h.a, h.up⟩
theorem Rg.set {w W : World} {f : Nat → Bool} (h : Rg w W f) {k : Nat} (hk : k < 32) : Rg w (W.setCell ⟨w.heap.size, k, none⟩ (.bool true)) fun j => f j || decide (j = k) := by
  refine ⟨?_, h.up.trans (((Fr.refl (One w.heap.size) W).setCell (.inr rfl) _ _).below (Nat.le_of_lt h.a.lt) fun b hb e => by have e : b = w.heap.size := e; omega)⟩
  have := at_set h.a (k := k) (by rw [gC_len]; exact hk) (.bool true)
  rw [gC_set _ hk] at this
  exact this
theorem rg_new (w : World) : Rg w (w.alloc (.cells zb32.toArray 116)) fun _ => false := ⟨by rw [← zb_gc]; exact At.new _ _ _, (Below.refl _ _).alloc (Nat.le_refl _) _⟩
theorem info5b : (Tryd.prog.info? 5).map (fun i => (i.zero, i.size, i.bytes)) = some (some (.int .u8 0), 1, 1) := by kernel_rfl
/-- The registers that go, so far. -/
def flN (p : Nat → Bool) (k : Nat) : List Nat := (List.range k).filter p
theorem flN_yes {p : Nat → Bool} {k : Nat} (h : p k = true) : flN p (k + 1) = flN p k ++ [k] := by unfold flN; rw [List.range_succ, List.filter_append]; simp [h]
theorem flN_no {p : Nat → Bool} {k : Nat} (h : p k = false) : flN p (k + 1) = flN p k := by unfold flN; rw [List.range_succ, List.filter_append]; simp [h]
theorem flN_len (p : Nat → Bool) (k : Nat) : (flN p k).length ≤ k := by unfold flN; exact Nat.le_trans (List.length_filter_le _ _) (by simp)
theorem numsB_snoc (xs : List Nat) (k : Nat) : numsB (xs ++ [k]) = numsB xs ++ [.int .u8 (k : Int)] := by simp [numsB]
structure Rq (w W : World) (a : Option Addr) (c : Nat) (xs : List Nat) : Prop where
  row : W.ownsRow w.heap.size 5 1 (.slice a xs.length c) xs.length (numsB xs)
  up : Below w.heap.size w W
theorem Rq.next {w W W' : World} {a : Option Addr} {c : Nat} {xs : List Nat} (h : Rq w W a c xs) (g : Below W.heap.size W W') : Rq w W' a c xs := ⟨row_up h.row g, h.up.trans (g.mono h.up.size)⟩
theorem Rq.add {w X w4 : World} {a : Option Addr} {c g cap k : Nat} {xs : List Nat} (s : Rq w X a c xs) (hgrow : X.grownBy w4 (Value.slice a xs.length c).ownBlock) (hown : w4.ownsRow w.heap.size 5 1 (.slice (some ⟨g, 0, none⟩) (xs.length + 1) cap) (xs.length + 1) (numsB xs ++ [.int .u8 (k : Int)])) : Rq w w4 (some ⟨g, 0, none⟩) cap (xs ++ [k]) := by
  refine ⟨?_, s.up.grown hgrow s.up.size (fun b hb => (s.row.lt b hb).1)⟩
  rw [numsB_snoc, List.length_append]
  exact hown
section
variable {w : World} {t : Tab} {bs : List Bn} {H : Hx} {S : PM}
/-- What is in flight to registers. -/
def FlOut (w : World) (S : PM) (e : Ending) (w' : World) : Prop := ∃ v, e = .returned v ∧ w'.ownsRow w.heap.size 5 1 v (flyL S).length (numsB (flyL S)) ∧ Below w.heap.size w w'
set_option maxHeartbeats 8000000 in
theorem registers_any {L : Nat} (h : Mch w t bs H S) (hS : S.Ok L) (hL : L ≤ 1000000000) : Calls Tryd.prog 31 #[.pointer (some ⟨H.mb, 304, none⟩)] w (FlOut w S) := by
  have HM : Hid (∀ V, Below w.heap.size w V → Mch V t bs H S) := fun V hV => h.up hV
  have HS : Hid (S.Ok L) := hS
  have HZ : Hid (Rg w (w.alloc (.cells #[.bool false, .bool false, .bool false, .bool false, .bool false, .bool false, .bool false, .bool false, .bool false, .bool false, .bool false, .bool false, .bool false, .bool false, .bool false, .bool false, .bool false, .bool false, .bool false, .bool false, .bool false, .bool false, .bool false, .bool false, .bool false, .bool false, .bool false, .bool false, .bool false, .bool false, .bool false, .bool false] 116)) fun _ => false) := by
    have := rg_new w
    rw [zb_lit] at this
    exact this
  clear h hS
  go_enter Tryd.func31, Tryd.ntmps31
  go_upto_region 2 with fail
  generalize w.alloc (.cells #[.bool false, .bool false, .bool false, .bool false, .bool false, .bool false, .bool false, .bool false, .bool false, .bool false, .bool false, .bool false, .bool false, .bool false, .bool false, .bool false, .bool false, .bool false, .bool false, .bool false, .bool false, .bool false, .bool false, .bool false, .bool false, .bool false, .bool false, .bool false, .bool false, .bool false, .bool false, .bool false] 116) = W0 at *
  go_wp2_with fail
  go_loopw [13] (fun i wr => ∃ k : Nat, k ≤ 8 ∧ i = .int .i64 k ∧ Rg w wr (goB S k)) (fun i _ => 8 - (intOf i).toNat)
  case atStart => exact ⟨0, by omega, rfl, HZ.out⟩
  case round =>
    rename World => wr
    obtain ⟨k, hk, rfl, hr⟩ := hrel
    have HR : Hid (Rg w wr (goB S k)) := hr
    clear hr HZ
    by_cases hlt : k < 8
    · have k0 : (0 : Int) ≤ (k : Int) := by omega
      have k1 : (k : Int) < 8 := by omega
      have hm := HM.out _ HR.out.up
      have c0 := hm.c.f k hlt
      have cl := hm.c.lt
      obtain ⟨ao, c, hrv⟩ := row_slice (hm.rr k hlt)
      have HRow : Hid (w.ownsRow 0 118 3 (.slice ao (S.f k).length c) (S.f k).length (fcells (S.f k))) := by
        have := (HM.out _ (Below.refl _ _)).rr k hlt
        rw [hrv] at this
        exact this
      rw [hrv] at c0
      have hlen : ((S.f k).length : Int) ≤ 1000000000 := by have := HS.out.l k; omega
      clear hm hrv
      go_wp2_with fail
      have HR0 : Hid (Rg w wr (goP S k 0)) := by
        refine HR.out.ext fun j _ => (goP_zero S k j).symm
      generalize hl : S.f k = l at *
      have HF : Hid (∀ x ∈ l, x.Ok) := by rw [← hl]; exact HS.out.f k
      have HPs : Hid (∀ {j : Nat} {x : F}, l[j]? = some x → ∀ q, goP S k (j + 1) q = (goP S k j q || (decide (x.w = 0) && decide (x.n = (q : Int))))) := fun {j x} hx q => goP_succ S (by rw [hl]; exact hx) q
      have HPa : Hid (∀ q, goP S k l.length q = goB S (k + 1) q) := fun q => by rw [← hl]; exact goP_all S k q
      clear hl
      go_loopw [20] (fun i wr => ∃ j : Nat, j ≤ l.length ∧ i = .int .i64 j ∧ Rg w wr (goP S k j)) (fun i _ => l.length - (intOf i).toNat)
      case atStart => exact ⟨0, by omega, rfl, HR0.out⟩
      case round =>
        rename World => wi
        obtain ⟨j, hj, rfl, hr⟩ := hrel
        have HI : Hid (Rg w wi (goP S k j)) := hr
        clear hr HR0
        by_cases hjl : j < l.length
        · have j0 : (0 : Int) ≤ (j : Int) := by omega
          have j1 : (j : Int) < (l.length : Int) := by omega
          obtain ⟨x, hx⟩ : ∃ x, l[j]? = some x := ⟨_, List.getElem?_eq_getElem hjl⟩
          obtain ⟨t0, t1, t2⟩ := fcells_at hx
          have hrow := HRow.out
          obtain ⟨g, rfl⟩ : ∃ g, ao = some ⟨g, 0, none⟩ := by
            rcases hrow.2 with ⟨h1, h2⟩ | ⟨g, cap, cur, h1, h2, h3⟩
            · omega
            · injection h1 with h1
              exact ⟨g, h1⟩
          have gl0 := (hrow.lt g rfl).2
          have y0 : wi.cell? ⟨g, j * 3, none⟩ = some (.int .u8 x.w) := by rw [(bcell HI.out.up).1 _ _ gl0]; exact row_cell' hrow t0
          have y1 : wi.cell? ⟨g, j * 3 + 1, none⟩ = some (.int .u8 x.n) := by rw [(bcell HI.out.up).1 _ _ gl0]; exact row_cell' hrow t1
          have y2 : wi.cell? ⟨g, j * 3 + 2, none⟩ = some (.int .i64 x.v) := by rw [(bcell HI.out.up).1 _ _ gl0]; exact row_cell' hrow t2
          have gl : g < wi.heap.size := Nat.lt_of_lt_of_le gl0 HI.out.up.size
          have hxo := HF.out x (List.mem_of_getElem? hx)
          have HN : Hid (∀ q, goP S k (j + 1) q = (goP S k j q || (decide (x.w = 0) && decide (x.n = (q : Int))))) := HPs.out hx
          have HI2 : Hid (Rg w (wi.alloc (.cells #[.int .u8 x.w, .int .u8 x.n, .int .i64 x.v] 118)) (goP S k j)) := HI.out.next ((Below.refl _ _).alloc (Nat.le_refl _) _)
          have n0 := hxo.n0
          have HSz : Hid (w.heap.size < wi.heap.size) := HI.out.a.lt
          clear hx t0 t1 t2 hrow gl0
          by_cases hw0 : x.w = 0
          · have nr := hxo.r hw0
            obtain ⟨m, hm⟩ : ∃ m : Nat, x.n = m := ⟨x.n.toNat, by omega⟩
            have m1 : m < 32 := by omega
            have hb0 : (x.w == 0) = true := by simpa using hw0
            have HW0 : Hid (x.w = 0 ∧ x.n = (m : Int)) := ⟨hw0, hm⟩
            rw [hm] at y1 nr n0
            rw [hm] at HI2
            clear hw0 hxo hm
            have qa := HI2.out.a.c m _ (by rw [List.getElem?_toArray]; exact gC_at _ m1)
            have qf := HI2.out.a.f m
            have ql := HI2.out.a.lt
            go_wp2_with fail
            go_roundw
            case rel =>
              refine ⟨j + 1, by omega, by go_num, ?_⟩
              refine (HI2.out.set m1).ext fun q _ => ?_
              rw [HN.out q, HW0.out.1, HW0.out.2]
              by_cases e : q = m
              · subst e; simp
              · have : ¬ (m : Int) = (q : Int) := by omega
                simp [e, this]
            case measure => simp [intOf]; omega
          · have hb0 : (x.w == 0) = false := by simpa using hw0
            have HW0 : Hid (¬ x.w = 0) := hw0
            clear hw0 hxo
            go_wp2_with fail
            go_roundw
            case rel =>
              refine ⟨j + 1, by omega, by go_num, ?_⟩
              refine HI2.out.ext fun q _ => ?_
              rw [HN.out q]
              simp [HW0.out]
            case measure => simp [intOf]; omega
        · obtain rfl : j = l.length := by omega
          go_wp2_with fail
          go_roundw
          case rel => exact ⟨k + 1, by omega, by go_num, HI.out.ext fun q _ => HPa.out q⟩
          case measure => simp [intOf]; omega
    · obtain rfl : k = 8 := by omega
      clear HM HS
      go_upto_region 13 with fail
      obtain ⟨C, hC⟩ : ∃ C, gC (goB S 8) = C := ⟨_, rfl⟩
      have hr := at_range HR.out.a
      have HC : Hid (gC (goB S 8) = C) := hC
      have hi : (Tryd.prog.info? 116).map (·.size) = some C.length := by rw [← hC, gC_len]; exact info116
      rw [hC] at hr
      have HP : Hid (∀ k, k < 32 → C[k]? = some (.bool (goB S 8 k))) := fun k hk => by rw [← hC]; exact gC_at _ hk
      have HU : Hid (Below w.heap.size w wr) := HR.out.up
      have HFl : Hid (flyL S = flN (goB S 8) 32) := rfl
      obtain ⟨i0, hi0, hi2⟩ := Option.map_eq_some_iff.1 info5b
      simp only [Prod.mk.injEq] at hi2
      have HI : Hid (Tryd.prog.info? 5 = some i0 ∧ i0.zero = some (.int .u8 0) ∧ i0.size = 1 ∧ i0.bytes = 1) := ⟨hi0, hi2.1, hi2.2.1, hi2.2.2⟩
      clear HR HC hC hi0 hi2
      rename_i K13 hK13
      apply wp_region_lit
      refine wpList_load_mid rfl 116 (.tmp 3) rfl w.heap.size 0 rfl C _ hr Tryd.underlying116 rfl hi ?_
      refine wpList_plain rfl (fun K hK => ?_)
      go_simp
      refine hK _ _ ?_
      clear hK K
      refine wpList_nil ?_
      refine hK13 _ _ ?_
      clear hK13 K13 hr hi
      generalize goB S 8 = p at *
      go_wp2_with fail
      go_loopw [8, 33] (fun v i wq => ∃ (k : Nat) (a : Option Addr) (c : Nat), k ≤ 32 ∧ i = .int .i64 k ∧ v = .slice a (flN p k).length c ∧ Rq w wq a c (flN p k)) (fun _ i _ => 32 - (intOf i).toNat)
      case atStart => exact ⟨0, none, 0, by omega, rfl, rfl, World.ownsRow_nil _ _ _ _, HU.out⟩
      case round =>
        rename World => wq
        obtain ⟨k, a, c, hk, rfl, rfl, hq⟩ := hrel
        have HQ : Hid (Rq w wq a c (flN p k)) := hq
        clear hq HU
        by_cases hlt : k < 32
        · have k0 : (0 : Int) ≤ (k : Int) := by omega
          have k1 : (k : Int) < 32 := by omega
          have hix := idx116 C (p k) k hlt (HP.out k hlt)
          cases hp : p k
          · rw [hp] at hix
            have HN : Hid (flN p (k + 1) = flN p k) := flN_no hp
            clear hp
            go_wp2_with fail
            go_roundw
            case rel => exact ⟨k + 1, a, c, by omega, by go_num, by rw [HN.out], by rw [HN.out]; exact HQ.out⟩
            case measure => simp [intOf]; omega
          · rw [hp] at hix
            have HN : Hid (flN p (k + 1) = flN p k ++ [k]) := flN_yes hp
            have hl32 := flN_len p k
            clear hp
            generalize flN p k = xs at *
            have hu8 : IntKind.u8.wrap (k : Int) = (k : Int) := by rw [IntKind.wrap_u8]; omega
            have HX : Hid (Rq w (wq.alloc (.cells #[.int .u8 (k : Int)] 5)) a c xs) := HQ.out.next ((Below.refl _ _).alloc (Nat.le_refl _) _)
            have hsz : w.heap.size ≤ wq.heap.size := HQ.out.up.size
            go_wp2_with (first
              | (at_builtin; refine wpList_append_lies _ rfl _ _ 48 rfl w.heap.size 5 i0 (.int .u8 0) 1 1 Tryd.underlying48 HI.out.1 HI.out.2.1 HI.out.2.2.1 HI.out.2.2.2 rfl (by decide) (.slice a xs.length c) xs.length (numsB xs) rfl HX.out.row ⟨wq.heap.size, 0, none⟩ 1 1 [.int .u8 (k : Int)] rfl rfl (World.news_of_block (heap_alloc_new wq _)) (by simp [Value.oneCell']) (by decide) (by unfold maxLen; omega) (by omega) (by simp; omega) (wq.heap.size + 1) (by simp) ?_; intro g cp w5 hown hgrow hat hlt3; have HR5 : Hid (Rq w w5 (some ⟨g, 0, none⟩) cp (xs ++ [k])) := HX.out.add hgrow hown; clear hown hgrow hat hlt3))
            go_roundw
            case rel => exact ⟨k + 1, some ⟨g, 0, none⟩, cp, by omega, by go_num, by rw [HN.out, List.length_append]; rfl, by rw [HN.out]; exact HR5.out⟩
            case measure => simp [intOf]; omega
        · obtain rfl : k = 32 := by omega
          go_wp2_with fail
          go_ret
          refine ⟨_, rfl, ?_, HQ.out.up⟩
          rw [HFl.out]
          exact HQ.out.row
theorem flying_any {L : Nat} (h : Mch w t bs H S) (hS : S.Ok L) (hL : L ≤ 1000000000) : Calls Tryd.prog 17 #[ptr H.mb] w (FlOut w S) := by
  have HR : Hid (Calls Tryd.prog 31 #[.pointer (some ⟨H.mb, 304, none⟩)] w (FlOut w S)) := registers_any h hS hL
  clear h hS
  go_enter Tryd.func17, Tryd.ntmps17
  go_wp2_with (first
    | (go_at_call 31; refine Calls.mono HR.out ?_; rintro e w1 ⟨v, rfl, h1, h2⟩; have HX : Hid (FlOut w S (.returned v) w1) := ⟨v, rfl, h1, h2⟩; clear h1 h2))
  go_ret
  exact HX.out
end
end Go.Proofs.YtldfjlepbbmhnaaDoor.Pp
