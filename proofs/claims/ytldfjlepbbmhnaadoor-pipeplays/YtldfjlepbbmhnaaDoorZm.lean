/- What a run tells (Run) of however many cycles that are asked, also of less than none, read off the program by the walk. Conditions: the machine lies in memory, its bundles are well formed. -/
import Derived.Test.YtldfjlepbbmhnaaDoorZl
namespace Go.Proofs.YtldfjlepbbmhnaaDoor.Pp
open Go.ChangeShapes Go.WideShapes Go.ChangeAt Go.RowKit
open _root_.Go.Proofs.YtldfjlepbbmhnaaDoor.Op _root_.Go.Proofs.YtldfjlepbbmhnaaDoor.So _root_.Go.Proofs.YtldfjlepbbmhnaaDoor.Bu
open _root_.Go.Proofs.YtldfjlepbbmhnaaDoor.Tb (Tab TabAt Bnds)
set_option maxRecDepth 20000

section
variable {w : World} {t : Tab} {bs : List Bn} {H : Hx} {S : PM}
set_option maxHeartbeats 4000000 in
theorem run_doneN (N : Int) (n L : Nat) (hN : max N 0 = (n : Int)) (h : Mch w t bs H S) (hS : S.Ok L) (hB : Bo t bs) (hn : n ≤ 1048576) (hs : S.s + n ≤ 10000000000) (hL : L + 512 * n ≤ 100000000) (S2 : PM) (h2 : runM t bs n S = S2) (he : S2.e = 0) (hp2 : S2.p.length ≤ 1000000000) : Calls Tryd.prog 10 #[ptr H.mb, .int .i64 N] w fun e w' => ∃ vp vm, e = .returned (.agg #[.int .i64 0, .int .i64 S2.v, vp, vm, .int .i64 (S2.s : Int)]) ∧ w'.ownsRow w.heap.size 2 1 vp S2.p.length (S2.p.map fun x => .int .i64 x) ∧ w'.ownsRow w.heap.size 2 1 vm 256 ((List.range 256).map fun k => .int .i64 (S2.m k)) ∧ ∃ H', Mch w' t bs H' S2 ∧ Tn w H w' H' ∧ (∀ b, vp.ownBlock = some b → ¬ own H' b) ∧ (∀ b, vm.ownBlock = some b → ¬ own H' b) := by
  have hBw : Below w.heap.size w (w.alloc (.cells #[.int .i64 0, .int .i64 0, .slice none 0 0, .slice none 0 0, .int .i64 0] 42)) := (Below.refl _ _).alloc (Nat.le_refl _) _
  have HG : Hid (Calls Tryd.prog 28 #[ptr H.mb, .int .i64 (n : Int)] (w.alloc (.cells #[.int .i64 0, .int .i64 0, .slice none 0 0, .slice none 0 0, .int .i64 0] 42)) fun e w' => e = .returned (.tuple #[]) ∧ ∃ H', Mch w' t bs H' S2 ∧ Tn (w.alloc (.cells #[.int .i64 0, .int .i64 0, .slice none 0 0, .slice none 0 0, .int .i64 0] 42)) H w' H') := by
    have := goOn_any n L (h.up hBw) hS hB hs hL
    rw [h2] at this
    exact this
  have HA : Hid (At (w.alloc (.cells #[.int .i64 0, .int .i64 0, .slice none 0 0, .slice none 0 0, .int .i64 0] 42)) w.heap.size #[.int .i64 0, .int .i64 0, .slice none 0 0, .slice none 0 0, .int .i64 0] ∧ ¬ own H w.heap.size) := ⟨At.new _ _ _, fun e => absurd (own_lt h e) (by omega)⟩
  have HE0 : Hid (S2.e = 0) := he
  have HB0 : Hid (∀ V, Fr (own H) w V → BsAt V H.ba bs) := h.bF
  clear h hS hB hs hL h2 he hBw
  have n0 : (0 : Int) ≤ (n : Int) := by omega
  have n1 : (n : Int) ≤ 1048576 := by omega
  have n2 : ¬ (n : Int) < 0 := by omega
  have n3 : max N 0 = (n : Int) := hN
  have n4 : min (n : Int) 1048576 = (n : Int) := by omega
  go_enter Tryd.func10, Tryd.ntmps10
  go_upto_region 4 with (first
    | (go_at_call 28; refine Calls.mono HG.out ?_; rintro e w1 ⟨rfl, H1, m1, t1⟩; have HM : Hid (Mch w1 t bs H1 S2 ∧ Tn w H w1 H1 ∧ H1.mb = H.mb ∧ ¬ own H1 w.heap.size ∧ At w1 w.heap.size #[.int .i64 0, .int .i64 0, .slice none 0 0, .slice none 0 0, .int .i64 0]) := ⟨m1, (Tn.of ((Below.refl _ _).alloc (Nat.le_refl _) _)).trans t1, t1.q, fun e => (t1.t _ e).elim HA.out.2 (fun e => by rw [World.size_alloc] at e; omega), At.frb HA.out.1 t1.f HA.out.2⟩; clear m1 t1))
  have HK : Hid (∀ V, Below w1.heap.size w1 V → (H.mb < V.heap.size ∧ V.cell? ⟨H.mb, 312, none⟩ = some (.int .i64 S2.e) ∧ V.cell? ⟨H.mb, 314, none⟩ = some H1.pv ∧ V.cell? ⟨H.mb, 315, none⟩ = some (.int .i64 (S2.s : Int))) ∧ Mch V t bs H1 S2) := fun V hV => by
    have m := HM.out.1.up hV
    have e0 := m.c.lt
    have e1 := m.c.e
    have e2 := m.c.p
    have e3 := m.c.s
    rw [HM.out.2.2.1] at e0 e1 e2 e3
    exact ⟨⟨e0, e1, e2, e3⟩, m⟩
  have HCl : Hid (∀ V, Below w1.heap.size w1 V → Calls Tryd.prog 29 #[H1.pv] V fun e w' => ∃ v', e = .returned v' ∧ Cf V w' v' S2.p.length (S2.p.map fun x => .int .i64 x)) := fun V hV => clone_row H1.pv S2.p V (by omega) (HK.out V hV).2.pp
  have HR : Hid (∀ (V V2 : World) (bx : Nat) (vp : Value) (B : Nat), Below w1.heap.size w1 V → w1.heap.size ≤ bx → At V bx #[.int .i64 S2.e, .int .i64 0, vp, .slice none 0 0, .int .i64 (S2.s : Int)] → w1.heap.size ≤ B → V.ownsRow B 2 1 vp S2.p.length (S2.p.map fun x => .int .i64 x) → vp.ownBlock ≠ some bx → Below V.heap.size V V2 → Ro w V2 t bs H S2 bx vp) := fun V V2 bx vp B hV hbx hx hB hp hb hV2 => by
    have hw : w.heap.size < w1.heap.size := HM.out.2.2.2.2.lt
    have hb2 : Below w1.heap.size w1 V2 := hV.trans (hV2.mono hV.size)
    refine ⟨⟨H1, (HM.out.1.up hb2), HM.out.2.1.up hb2, HM.out.2.2.1, HM.out.2.2.2.1, fun e => absurd (own_lt HM.out.1 e) (by omega), fun b hb' e => by have := (hp.lt b hb').1; have := own_lt HM.out.1 e; omega⟩, HM.out.2.2.2.2.below hb2 hw, hx.below hV2 hx.lt, by omega, ?_, hb⟩
    have hp2 := row_up hp hV2
    exact ⟨hp2.1, hp2.2.imp id fun ⟨g, cap, cur, k1, k2, k3⟩ => ⟨g, cap, cur, k1, by omega, k3⟩⟩
  go_cut [5] (fun v wc => ∃ bx vp, v = .pointer (some ⟨bx, 0, none⟩) ∧ Ro w wc t bs H S2 bx vp)
  case first =>
    refine wp_region_held_drew (S := fun W' => Below w1.heap.size w1 W') (by kernel_rfl) (drew_up _) (fun hHeld => ?_)
    refine wpAnyH_take (i := 0) (v := ptr H.mb) rfl (by kernel_rfl) (by kernel_rfl) (by kernel_rfl) (fun _ _ _ h => h) (Or.inl ⟨by rfl, fun w' hSw => by (go_simp)⟩) hHeld ?_
    simp only [Act.put, List.setIfInBounds_toArray, List.set_cons_zero, List.set_cons_succ, List.getElem_cons_zero, List.getElem_toArray]
    refine wpAnyH_take (i := 1) (v := ptr H.mb) rfl (by kernel_rfl) (by kernel_rfl) (by kernel_rfl) (fun _ _ _ h => h) (Or.inl ⟨by rfl, fun w' hSw => by (go_simp)⟩) hHeld ?_
    simp only [Act.put, List.setIfInBounds_toArray, List.set_cons_zero, List.set_cons_succ, List.getElem_cons_zero, List.getElem_cons_succ, List.getElem_toArray]
    refine wpAnyH_take (i := 2) (v := .pointer (some ⟨H.mb, 312, none⟩)) rfl (by kernel_rfl) (by kernel_rfl) (by kernel_rfl) (fun _ _ _ h => h) (Or.inl ⟨by rfl, fun w' hSw => by (go_simp)⟩) hHeld ?_
    simp only [Act.put, List.setIfInBounds_toArray, List.set_cons_zero, List.set_cons_succ, List.getElem_cons_zero, List.getElem_cons_succ, List.getElem_toArray]
    refine wpAnyH_take (i := 3) (v := .int .i64 S2.e) rfl (by kernel_rfl) (by kernel_rfl) (by kernel_rfl) (fun _ _ _ h => h) (Or.inl ⟨by rfl, fun w' hSw => by (have hk := (HK.out _ hSw).1; obtain ⟨ql, s0, s1, s2⟩ := hk; go_simp)⟩) hHeld ?_
    simp only [Act.put, List.setIfInBounds_toArray, List.set_cons_zero, List.set_cons_succ, List.getElem_cons_zero, List.getElem_cons_succ, List.getElem_toArray]
    refine wpAnyH_take (i := 4) (v := ptr H.mb) rfl (by kernel_rfl) (by kernel_rfl) (by kernel_rfl) (fun _ _ _ h => h) (Or.inl ⟨by rfl, fun w' hSw => by (go_simp)⟩) hHeld ?_
    simp only [Act.put, List.setIfInBounds_toArray, List.set_cons_zero, List.set_cons_succ, List.getElem_cons_zero, List.getElem_cons_succ, List.getElem_toArray]
    refine wpAnyH_take (i := 5) (v := ptr H.mb) rfl (by kernel_rfl) (by kernel_rfl) (by kernel_rfl) (fun _ _ _ h => h) (Or.inl ⟨by rfl, fun w' hSw => by (go_simp)⟩) hHeld ?_
    simp only [Act.put, List.setIfInBounds_toArray, List.set_cons_zero, List.set_cons_succ, List.getElem_cons_zero, List.getElem_cons_succ, List.getElem_toArray]
    refine wpAnyH_take (i := 6) (v := .pointer (some ⟨H.mb, 314, none⟩)) rfl (by kernel_rfl) (by kernel_rfl) (by kernel_rfl) (fun _ _ _ h => h) (Or.inl ⟨by rfl, fun w' hSw => by (go_simp)⟩) hHeld ?_
    simp only [Act.put, List.setIfInBounds_toArray, List.set_cons_zero, List.set_cons_succ, List.getElem_cons_zero, List.getElem_cons_succ, List.getElem_toArray]
    refine wpAnyH_take (i := 7) (v := H1.pv) rfl (by kernel_rfl) (by kernel_rfl) (by kernel_rfl) (fun _ _ _ h => h) (Or.inl ⟨by rfl, fun w' hSw => by (have hk := (HK.out _ hSw).1; obtain ⟨ql, s0, s1, s2⟩ := hk; go_simp)⟩) hHeld ?_
    simp only [Act.put, List.setIfInBounds_toArray, List.set_cons_zero, List.set_cons_succ, List.getElem_cons_zero, List.getElem_cons_succ, List.getElem_toArray]
    refine wpAnyH_take (i := 9) (v := ptr H.mb) rfl (by kernel_rfl) (by kernel_rfl) (by kernel_rfl) (fun _ _ _ h => h) (Or.inl ⟨by rfl, fun w' hSw => by (go_simp)⟩) hHeld ?_
    simp only [Act.put, List.setIfInBounds_toArray, List.set_cons_zero, List.set_cons_succ, List.getElem_cons_zero, List.getElem_cons_succ, List.getElem_toArray]
    refine wpAnyH_take (i := 10) (v := ptr H.mb) rfl (by kernel_rfl) (by kernel_rfl) (by kernel_rfl) (fun _ _ _ h => h) (Or.inl ⟨by rfl, fun w' hSw => by (go_simp)⟩) hHeld ?_
    simp only [Act.put, List.setIfInBounds_toArray, List.set_cons_zero, List.set_cons_succ, List.getElem_cons_zero, List.getElem_cons_succ, List.getElem_toArray]
    refine wpAnyH_take (i := 11) (v := .pointer (some ⟨H.mb, 315, none⟩)) rfl (by kernel_rfl) (by kernel_rfl) (by kernel_rfl) (fun _ _ _ h => h) (Or.inl ⟨by rfl, fun w' hSw => by (go_simp)⟩) hHeld ?_
    simp only [Act.put, List.setIfInBounds_toArray, List.set_cons_zero, List.set_cons_succ, List.getElem_cons_zero, List.getElem_cons_succ, List.getElem_toArray]
    refine wpAnyH_take (i := 12) (v := .int .i64 (S2.s : Int)) rfl (by kernel_rfl) (by kernel_rfl) (by kernel_rfl) (fun _ _ _ h => h) (Or.inl ⟨by rfl, fun w' hSw => by (have hk := (HK.out _ hSw).1; obtain ⟨ql, s0, s1, s2⟩ := hk; go_simp)⟩) hHeld ?_
    simp only [Act.put, List.setIfInBounds_toArray, List.set_cons_zero, List.set_cons_succ, List.getElem_cons_zero, List.getElem_cons_succ, List.getElem_toArray]
    refine wpAnyH_ready (rs := [8, 14]) (by kernel_rfl) (by simp) ?_
    refine AllReadyH.cons rfl (fun K hK => ?_) (AllReadyH.cons rfl (fun K hK => ?_) AllReadyH.nil)
    · go_simp
      refine Calls.mono (HCl.out _ hHeld) ?_
      rintro e w2 ⟨vp, rfl, hc⟩
      have HX : Hid (Below w1.heap.size w1 w2) := (drew_up w1).trans hc.b
      obtain ⟨ao, c, rfl⟩ := row_slice hc.r
      have HF : Hid (w2.ownsRow w1.heap.size 2 1 (.slice ao S2.p.length c) S2.p.length (S2.p.map fun x => .int .i64 x)) := hc.r
      clear hc
      refine hK.out _ _ HX.out (fun hHeld => ?_)
      clear hK K
      refine wpAnyH_take (i := 13) (v := .agg #[.int .i64 S2.e, .int .i64 0, .slice ao S2.p.length c, .slice none 0 0, .int .i64 (S2.s : Int)]) rfl (by kernel_rfl) (by kernel_rfl) (by kernel_rfl) (fun _ _ _ h => h) (Or.inl ⟨by rfl, fun w' hSw => by (go_simp)⟩) hHeld ?_
      simp only [Act.put, List.setIfInBounds_toArray, List.set_cons_zero, List.set_cons_succ, List.getElem_cons_zero, List.getElem_cons_succ, List.getElem_toArray]
      refine wpAnyH_ready (rs := [14]) (by kernel_rfl) (by simp) ?_
      refine AllReadyH.cons rfl (fun K hK => ?_) AllReadyH.nil
      go_simp
      refine hK.out _ _ (Below.alloc HX.out HX.out.size _) (fun hHeld => ?_)
      clear hK K
      refine wpAnyH_ready (rs := [15]) (by kernel_rfl) (by simp) ?_
      refine AllReadyH.cons rfl (fun K hK => ?_) AllReadyH.nil
      go_simp
      refine hK.out _ _ (Below.alloc HX.out HX.out.size _) (fun hHeld => ?_)
      clear hK K
      refine wpAnyH_done (by kernel_rfl) ?_ _
      clear hHeld
      go_wp2_with fail
      go_meet
      exact ⟨_, _, rfl, HR.out _ _ _ _ _ (Below.alloc HX.out HX.out.size _) HX.out.size (At.new _ _ _) (Nat.le_refl _) (row_up HF.out ((Below.refl _ _).alloc (Nat.le_refl _) _)) (fun e => absurd (HF.out.lt _ e).2 (by omega)) (Below.refl _ _)⟩
    · go_simp
      have HX0 : Hid (Below w1.heap.size w1 (w1.alloc (.cells #[.int .i64 0, .int .i64 0, .slice none 0 0, .slice none 0 0, .int .i64 0] 42)).drew) := ((Below.refl _ _).alloc (Nat.le_refl _) _).drew
      refine hK.out _ _ HX0.out (fun hHeld => ?_)
      clear hK K
      have HAt : Hid (At (w1.alloc (.cells #[.int .i64 0, .int .i64 0, .slice none 0 0, .slice none 0 0, .int .i64 0] 42)).drew w1.heap.size #[.int .i64 0, .int .i64 0, .slice none 0 0, .slice none 0 0, .int .i64 0]) := (At.new w1 #[.int .i64 0, .int .i64 0, .slice none 0 0, .slice none 0 0, .int .i64 0] 42).below (drew_up _) (by simp)
      have HSz : Hid ((w1.alloc (.cells #[.int .i64 0, .int .i64 0, .slice none 0 0, .slice none 0 0, .int .i64 0] 42)).drew.heap.size = w1.heap.size + 1) := by show (w1.alloc (.cells #[.int .i64 0, .int .i64 0, .slice none 0 0, .slice none 0 0, .int .i64 0] 42)).heap.size = _; simp
      generalize (w1.alloc (.cells #[.int .i64 0, .int .i64 0, .slice none 0 0, .slice none 0 0, .int .i64 0] 42)).drew = A at *
      refine wpAnyH_ready (rs := [8]) (by kernel_rfl) (by simp) ?_
      refine AllReadyH.cons rfl (fun K hK => ?_) AllReadyH.nil
      go_simp
      refine Calls.mono (HCl.out _ hHeld) ?_
      rintro e w2 ⟨vp, rfl, hc⟩
      have HX : Hid (Below w1.heap.size w1 w2 ∧ At w2 w1.heap.size #[.int .i64 0, .int .i64 0, .slice none 0 0, .slice none 0 0, .int .i64 0]) := ⟨HX0.out.trans (hc.b.mono HX0.out.size), HAt.out.below hc.b HAt.out.lt⟩
      obtain ⟨ao, c, rfl⟩ := row_slice hc.r
      have HF : Hid (w2.ownsRow (w1.heap.size + 1) 2 1 (.slice ao S2.p.length c) S2.p.length (S2.p.map fun x => .int .i64 x)) := (by have := hc.r; rw [HSz.out] at this; exact this)
      clear hc
      refine hK.out _ _ HX.out.1 (fun hHeld => ?_)
      clear hK K
      refine wpAnyH_take (i := 13) (v := .agg #[.int .i64 S2.e, .int .i64 0, .slice ao S2.p.length c, .slice none 0 0, .int .i64 (S2.s : Int)]) rfl (by kernel_rfl) (by kernel_rfl) (by kernel_rfl) (fun _ _ _ h => h) (Or.inl ⟨by rfl, fun w' hSw => by (go_simp)⟩) hHeld ?_
      simp only [Act.put, List.setIfInBounds_toArray, List.set_cons_zero, List.set_cons_succ, List.getElem_cons_zero, List.getElem_cons_succ, List.getElem_toArray]
      have z0 := HX.out.2.c 0 _ rfl
      have z1 := HX.out.2.c 1 _ rfl
      have z2 := HX.out.2.c 2 _ rfl
      have z3 := HX.out.2.c 3 _ rfl
      have z4 := HX.out.2.c 4 _ rfl
      have zf := HX.out.2.f
      have zl := HX.out.2.lt
      refine wpAnyH_ready (rs := [15]) (by kernel_rfl) (by simp) ?_
      refine AllReadyH.cons rfl (fun K hK => ?_) AllReadyH.nil
      go_simp
      have HX5 : Hid (Below w1.heap.size w1 (((((w2.setCell ⟨w1.heap.size, 0, none⟩ (.int .i64 S2.e)).setCell ⟨w1.heap.size, 1, none⟩ (.int .i64 0)).setCell ⟨w1.heap.size, 2, none⟩ (.slice ao S2.p.length c)).setCell ⟨w1.heap.size, 3, none⟩ (.slice none 0 0)).setCell ⟨w1.heap.size, 4, none⟩ (.int .i64 (S2.s : Int))) ∧ Fr (One w1.heap.size) w2 (((((w2.setCell ⟨w1.heap.size, 0, none⟩ (.int .i64 S2.e)).setCell ⟨w1.heap.size, 1, none⟩ (.int .i64 0)).setCell ⟨w1.heap.size, 2, none⟩ (.slice ao S2.p.length c)).setCell ⟨w1.heap.size, 3, none⟩ (.slice none 0 0)).setCell ⟨w1.heap.size, 4, none⟩ (.int .i64 (S2.s : Int))) ∧ At (((((w2.setCell ⟨w1.heap.size, 0, none⟩ (.int .i64 S2.e)).setCell ⟨w1.heap.size, 1, none⟩ (.int .i64 0)).setCell ⟨w1.heap.size, 2, none⟩ (.slice ao S2.p.length c)).setCell ⟨w1.heap.size, 3, none⟩ (.slice none 0 0)).setCell ⟨w1.heap.size, 4, none⟩ (.int .i64 (S2.s : Int))) w1.heap.size #[.int .i64 S2.e, .int .i64 0, .slice ao S2.p.length c, .slice none 0 0, .int .i64 (S2.s : Int)]) := by
        have f : Fr (One w1.heap.size) w2 (((((w2.setCell ⟨w1.heap.size, 0, none⟩ (.int .i64 S2.e)).setCell ⟨w1.heap.size, 1, none⟩ (.int .i64 0)).setCell ⟨w1.heap.size, 2, none⟩ (.slice ao S2.p.length c)).setCell ⟨w1.heap.size, 3, none⟩ (.slice none 0 0)).setCell ⟨w1.heap.size, 4, none⟩ (.int .i64 (S2.s : Int))) := (((((Fr.refl (One w1.heap.size) w2).setCell (.inr rfl) _ _).setCell (.inr rfl) _ _).setCell (.inr rfl) _ _).setCell (.inr rfl) _ _).setCell (.inr rfl) _ _
        exact ⟨HX.out.1.trans (f.below HX.out.1.size fun b hb e => by have e : b = w1.heap.size := e; omega), f, At.setk (k := 4) (At.setk (k := 3) (At.setk (k := 2) (At.setk (k := 1) (At.setk (k := 0) HX.out.2 (by simp)) (by simp)) (by simp)) (by simp)) (by simp)⟩
      refine hK.out _ _ HX5.out.1 (fun hHeld => ?_)
      clear hK K z0 z1 z2 z3 z4 zf zl
      refine wpAnyH_done (by kernel_rfl) ?_ _
      clear hHeld
      generalize (((((w2.setCell ⟨w1.heap.size, 0, none⟩ (.int .i64 S2.e)).setCell ⟨w1.heap.size, 1, none⟩ (.int .i64 0)).setCell ⟨w1.heap.size, 2, none⟩ (.slice ao S2.p.length c)).setCell ⟨w1.heap.size, 3, none⟩ (.slice none 0 0)).setCell ⟨w1.heap.size, 4, none⟩ (.int .i64 (S2.s : Int))) = Z at *
      go_wp2_with fail
      go_meet
      exact ⟨_, _, rfl, HR.out _ _ _ _ (w1.heap.size + 1) HX5.out.1 (Nat.le_refl _) HX5.out.2.2 (by omega) (row_fr HF.out HX5.out.2.1 fun b e e2 => by have e2 : b = w1.heap.size := e2; have := (HF.out.lt b e).1; omega) (fun e => by have := (HF.out.lt _ e).1; omega) (Below.refl _ _)⟩
  case rest =>
    obtain ⟨bx, vp, rfl, hro⟩ := hcut
    obtain ⟨ao, c, rfl⟩ := row_slice hro.pr
    obtain ⟨H3, m3, t3, q3, n3, n4, n5⟩ := hro.mm
    have HRo : Hid (Ro w wc t bs H S2 bx (.slice ao S2.p.length c) ∧ Mch wc t bs H3 S2 ∧ Tn w H wc H3 ∧ H3.mb = H.mb ∧ ¬ own H3 w.heap.size ∧ ¬ own H3 bx ∧ ∀ b, (Value.slice ao S2.p.length c).ownBlock = some b → ¬ own H3 b) := ⟨hro, m3, t3, q3, n3, n4, n5⟩
    have e0 := m3.c.e
    have el := m3.c.lt
    rw [q3] at e0 el
    rw [HE0.out] at e0
    have hbx : H.mb ≠ bx := fun e => n4 (.inl (by rw [q3]; exact e.symm))
    have HV : Hid (∀ V, Fr (One bx) wc V → H.mb < V.heap.size ∧ V.cell? ⟨H.mb, 313, none⟩ = some (.int .i64 S2.v)) := fun V hV => by
      have e1 := m3.c.v
      rw [q3] at e1
      exact ⟨Nat.lt_of_lt_of_le el hV.size, by rw [hV.cell el hbx]; exact e1⟩
    have HCm : Hid (∀ V, Below wc.heap.size wc V → Calls Tryd.prog 29 #[.slice (some ⟨H.mb, 46, none⟩) 256 256] V fun e w' => ∃ v', e = .returned v' ∧ Cf V w' v' 256 ((List.range 256).map fun k => .int .i64 (S2.m k))) := fun V hV => by
      have := clone_mem (m3.up hV).c
      rw [q3] at this
      exact this
    clear hro m3 t3 q3 n3 n4 n5 HK HCl HR HM HA HG
    go_upto_region 6 with fail
    refine wp_region_held_drew (S := fun W' => H.mb < W'.heap.size ∧ W'.cell? ⟨H.mb, 313, none⟩ = some (.int .i64 S2.v)) (by kernel_rfl) (HV.out _ (Fr.refl _ wc).drew) (fun hHeld => ?_)
    refine wpAnyH_take (i := 0) (v := ptr H.mb) rfl (by kernel_rfl) (by kernel_rfl) (by kernel_rfl) (fun _ _ _ h => h) (Or.inl ⟨by rfl, fun w' hSw => by (go_simp)⟩) hHeld ?_
    simp only [Act.put, List.setIfInBounds_toArray, List.set_cons_zero, List.set_cons_succ, List.getElem_cons_zero, List.getElem_toArray]
    refine wpAnyH_take (i := 1) (v := ptr H.mb) rfl (by kernel_rfl) (by kernel_rfl) (by kernel_rfl) (fun _ _ _ h => h) (Or.inl ⟨by rfl, fun w' hSw => by (go_simp)⟩) hHeld ?_
    simp only [Act.put, List.setIfInBounds_toArray, List.set_cons_zero, List.set_cons_succ, List.getElem_cons_zero, List.getElem_cons_succ, List.getElem_toArray]
    refine wpAnyH_take (i := 2) (v := .pointer (some ⟨H.mb, 313, none⟩)) rfl (by kernel_rfl) (by kernel_rfl) (by kernel_rfl) (fun _ _ _ h => h) (Or.inl ⟨by rfl, fun w' hSw => by (go_simp)⟩) hHeld ?_
    simp only [Act.put, List.setIfInBounds_toArray, List.set_cons_zero, List.set_cons_succ, List.getElem_cons_zero, List.getElem_cons_succ, List.getElem_toArray]
    refine wpAnyH_take (i := 3) (v := .int .i64 S2.v) rfl (by kernel_rfl) (by kernel_rfl) (by kernel_rfl) (fun _ _ _ h => h) (Or.inl ⟨by rfl, fun w' hSw => by (have q := hSw.2; have ql := hSw.1; go_simp)⟩) hHeld ?_
    simp only [Act.put, List.setIfInBounds_toArray, List.set_cons_zero, List.set_cons_succ, List.getElem_cons_zero, List.getElem_cons_succ, List.getElem_toArray]
    refine wpAnyH_take (i := 4) (v := ptr H.mb) rfl (by kernel_rfl) (by kernel_rfl) (by kernel_rfl) (fun _ _ _ h => h) (Or.inl ⟨by rfl, fun w' hSw => by (go_simp)⟩) hHeld ?_
    simp only [Act.put, List.setIfInBounds_toArray, List.set_cons_zero, List.set_cons_succ, List.getElem_cons_zero, List.getElem_cons_succ, List.getElem_toArray]
    refine wpAnyH_take (i := 5) (v := ptr H.mb) rfl (by kernel_rfl) (by kernel_rfl) (by kernel_rfl) (fun _ _ _ h => h) (Or.inl ⟨by rfl, fun w' hSw => by (go_simp)⟩) hHeld ?_
    simp only [Act.put, List.setIfInBounds_toArray, List.set_cons_zero, List.set_cons_succ, List.getElem_cons_zero, List.getElem_cons_succ, List.getElem_toArray]
    refine wpAnyH_take (i := 6) (v := .pointer (some ⟨H.mb, 46, none⟩)) rfl (by kernel_rfl) (by kernel_rfl) (by kernel_rfl) (fun _ _ _ h => h) (Or.inl ⟨by rfl, fun w' hSw => by (go_simp)⟩) hHeld ?_
    simp only [Act.put, List.setIfInBounds_toArray, List.set_cons_zero, List.set_cons_succ, List.getElem_cons_zero, List.getElem_cons_succ, List.getElem_toArray]
    refine wpAnyH_take (i := 7) (v := .slice (some ⟨H.mb, 46, none⟩) 256 256) rfl (by kernel_rfl) (by kernel_rfl) (by kernel_rfl) (fun _ _ _ h => h) (Or.inl ⟨by rfl, fun w' hSw => by (go_simp)⟩) hHeld ?_
    simp only [Act.put, List.setIfInBounds_toArray, List.set_cons_zero, List.set_cons_succ, List.getElem_cons_zero, List.getElem_cons_succ, List.getElem_toArray]
    refine wpAnyH_take (i := 9) (v := .pointer (some ⟨bx, 1, none⟩)) rfl (by kernel_rfl) (by kernel_rfl) (by kernel_rfl) (fun _ _ _ h => h) (Or.inl ⟨by rfl, fun w' hSw => by (go_simp)⟩) hHeld ?_
    simp only [Act.put, List.setIfInBounds_toArray, List.set_cons_zero, List.set_cons_succ, List.getElem_cons_zero, List.getElem_cons_succ, List.getElem_toArray]
    refine wpAnyH_ready (rs := [8]) (by kernel_rfl) (by simp) ?_
    refine AllReadyH.cons rfl (fun K hK => ?_) AllReadyH.nil
    go_simp
    refine Calls.mono (HCm.out wc.drew (drew_up wc)) ?_
    rintro e w3 ⟨vm, rfl, hc⟩
    obtain ⟨mo, mc, rfl⟩ := row_slice hc.r; have hb3 : Below wc.heap.size wc w3 := (drew_up wc).trans hc.b
    refine hK.out _ _ (HV.out _ (Fr.of hb3)) (fun hHeld => ?_)
    clear hK K
    have H3x : Hid (At w3 bx #[.int .i64 S2.e, .int .i64 0, .slice ao S2.p.length c, .slice none 0 0, .int .i64 (S2.s : Int)] ∧ Below wc.heap.size wc w3 ∧ w3.ownsRow wc.heap.size 2 1 (.slice mo 256 mc) 256 ((List.range 256).map fun k => .int .i64 (S2.m k))) := ⟨HRo.out.1.x.below hb3 HRo.out.1.x.lt, hb3, hc.r⟩
    clear hb3 hc
    have x0 := H3x.out.1.c 1 _ rfl
    have x1 := H3x.out.1.c 3 _ rfl
    have xf := H3x.out.1.f
    have xl := H3x.out.1.lt
    refine wpAnyH_ready (rs := [10]) (by kernel_rfl) (by simp) ?_
    refine AllReadyH.cons rfl (fun K hK => ?_) AllReadyH.nil
    go_simp
    refine hK.out _ _ (HV.out _ ((Fr.of (X := One bx) H3x.out.2.1).setCell (.inr rfl) _ _)) (fun hHeld => ?_)
    clear hK K
    refine wpAnyH_take (i := 11) (v := .pointer (some ⟨bx, 3, none⟩)) rfl (by kernel_rfl) (by kernel_rfl) (by kernel_rfl) (fun _ _ _ h => h) (Or.inl ⟨by rfl, fun w' hSw => by (go_simp)⟩) hHeld ?_
    simp only [Act.put, List.setIfInBounds_toArray, List.set_cons_zero, List.set_cons_succ, List.getElem_cons_zero, List.getElem_cons_succ, List.getElem_toArray]
    refine wpAnyH_ready (rs := [12]) (by kernel_rfl) (by simp) ?_
    refine AllReadyH.cons rfl (fun K hK => ?_) AllReadyH.nil
    go_simp
    refine hK.out _ _ (HV.out _ (((Fr.of (X := One bx) H3x.out.2.1).setCell (.inr rfl) _ _).setCell (.inr rfl) _ _)) (fun hHeld => ?_)
    clear hK K
    refine wpAnyH_done (by kernel_rfl) ?_ _
    clear hHeld x0 x1 xf xl
    have HZ : Hid (At ((w3.setCell ⟨bx, 1, none⟩ (.int .i64 S2.v)).setCell ⟨bx, 3, none⟩ (.slice mo 256 mc)) bx #[.int .i64 S2.e, .int .i64 S2.v, .slice ao S2.p.length c, .slice mo 256 mc, .int .i64 (S2.s : Int)] ∧ At ((w3.setCell ⟨bx, 1, none⟩ (.int .i64 S2.v)).setCell ⟨bx, 3, none⟩ (.slice mo 256 mc)) w.heap.size #[.int .i64 0, .int .i64 0, .slice none 0 0, .slice none 0 0, .int .i64 0] ∧ Fr (One bx) wc ((w3.setCell ⟨bx, 1, none⟩ (.int .i64 S2.v)).setCell ⟨bx, 3, none⟩ (.slice mo 256 mc)) ∧ ((w3.setCell ⟨bx, 1, none⟩ (.int .i64 S2.v)).setCell ⟨bx, 3, none⟩ (.slice mo 256 mc)).ownsRow wc.heap.size 2 1 (.slice mo 256 mc) 256 ((List.range 256).map fun k => .int .i64 (S2.m k))) := by
      have f : Fr (One bx) wc ((w3.setCell ⟨bx, 1, none⟩ (.int .i64 S2.v)).setCell ⟨bx, 3, none⟩ (.slice mo 256 mc)) := ((Fr.of (X := One bx) H3x.out.2.1).setCell (.inr rfl) _ _).setCell (.inr rfl) _ _
      have f3 : Fr (One bx) w3 ((w3.setCell ⟨bx, 1, none⟩ (.int .i64 S2.v)).setCell ⟨bx, 3, none⟩ (.slice mo 256 mc)) := ((Fr.refl (One bx) w3).setCell (.inr rfl) _ _).setCell (.inr rfl) _ _
      have hbl := HRo.out.1.x.lt
      exact ⟨At.setk (k := 3) (At.setk (k := 1) H3x.out.1 (by simp)) (by simp), At.frb HRo.out.1.r f (fun e => by have e : w.heap.size = bx := e; have := HRo.out.1.nb; omega), f, row_fr H3x.out.2.2 f3 fun b e e2 => by have e2 : b = bx := e2; have := (H3x.out.2.2.lt b e).1; omega⟩
    clear e0 el
    generalize ((w3.setCell ⟨bx, 1, none⟩ (.int .i64 S2.v)).setCell ⟨bx, 3, none⟩ (.slice mo 256 mc)) = Z at *
    have x0 := HZ.out.1.c 0 _ rfl
    have x1 := HZ.out.1.c 1 _ rfl
    have x2 := HZ.out.1.c 2 _ rfl
    have x3 := HZ.out.1.c 3 _ rfl
    have x4 := HZ.out.1.c 4 _ rfl
    have xl := HZ.out.1.lt
    have r0 := HZ.out.2.1.c 0 _ rfl
    have r1 := HZ.out.2.1.c 1 _ rfl
    have r2 := HZ.out.2.1.c 2 _ rfl
    have r3 := HZ.out.2.1.c 3 _ rfl
    have r4 := HZ.out.2.1.c 4 _ rfl
    have rf := HZ.out.2.1.f
    have rl := HZ.out.2.1.lt
    go_wp2_with fail
    have gF : Fr (One w.heap.size) Z (((((Z.setCell ⟨w.heap.size, 0, none⟩ (.int .i64 S2.e)).setCell ⟨w.heap.size, 1, none⟩ (.int .i64 S2.v)).setCell ⟨w.heap.size, 2, none⟩ (.slice ao S2.p.length c)).setCell ⟨w.heap.size, 3, none⟩ (.slice mo 256 mc)).setCell ⟨w.heap.size, 4, none⟩ (.int .i64 (S2.s : Int))) := (((((Fr.refl (One w.heap.size) Z).setCell (.inr rfl) _ _).setCell (.inr rfl) _ _).setCell (.inr rfl) _ _).setCell (.inr rfl) _ _).setCell (.inr rfl) _ _
    have hz := HRo.out.2.2.1.f.size
    have hfz : Fr (fun b => b = bx ∨ b = w.heap.size) wc (((((Z.setCell ⟨w.heap.size, 0, none⟩ (.int .i64 S2.e)).setCell ⟨w.heap.size, 1, none⟩ (.int .i64 S2.v)).setCell ⟨w.heap.size, 2, none⟩ (.slice ao S2.p.length c)).setCell ⟨w.heap.size, 3, none⟩ (.slice mo 256 mc)).setCell ⟨w.heap.size, 4, none⟩ (.int .i64 (S2.s : Int))) := (HZ.out.2.2.1.mono fun b _ e => .inl e).trans (gF.mono fun b _ e => (.inr e : b = bx ∨ b = w.heap.size)) fun _ _ e => e
    have tn : Tn w H (((((Z.setCell ⟨w.heap.size, 0, none⟩ (.int .i64 S2.e)).setCell ⟨w.heap.size, 1, none⟩ (.int .i64 S2.v)).setCell ⟨w.heap.size, 2, none⟩ (.slice ao S2.p.length c)).setCell ⟨w.heap.size, 3, none⟩ (.slice mo 256 mc)).setCell ⟨w.heap.size, 4, none⟩ (.int .i64 (S2.s : Int))) H3 := ⟨HRo.out.2.2.1.f.trans hfz fun b hb e => by
      have := HRo.out.1.nb
      rcases e with e | e <;> omega, HRo.out.2.2.1.t, HRo.out.2.2.1.q, HRo.out.2.2.1.a⟩
    have hp := HRo.out.1.pr
    have hpb := HRo.out.1.pb
    have hnb := HRo.out.1.nb
    have hbl := HRo.out.1.x.lt
    refine bodyPost_ret (v := .agg #[.int .i64 0, .int .i64 S2.v, .slice ao S2.p.length c, .slice mo 256 mc, .int .i64 (S2.s : Int)]) (by simp [results, Tryd.results10, go_sem, r0, r1, r2, r3, r4, HE0.out]) rfl ⟨_, _, rfl, ?_, ?_, H3, HRo.out.2.1.aside hfz (fun b e => by
      rcases e with e | e
      · rw [e]; exact HRo.out.2.2.2.2.2.1
      · rw [e]; exact HRo.out.2.2.2.2.1) (bF_go HB0.out tn tn.a), tn, HRo.out.2.2.2.2.2.2, fun b hb e => by have := (HZ.out.2.2.2.lt b hb).1; have := own_lt HRo.out.2.1 e; omega⟩
    · have hp2 := row_fr hp hfz fun b e e2 => by
        have := (hp.lt b e).1
        rcases e2 with e2 | e2
        · subst e2; exact hpb e
        · omega
      exact ⟨hp2.1, hp2.2.imp id fun ⟨g, cap, cur, k1, k2, k3⟩ => ⟨g, cap, cur, k1, by omega, k3⟩⟩
    · have hp2 := row_fr HZ.out.2.2.2 gF fun b e e2 => by
        have e2 : b = w.heap.size := e2
        have := (HZ.out.2.2.2.lt b e).1
        omega
      exact ⟨hp2.1, hp2.2.imp id fun ⟨g, cap, cur, k1, k2, k3⟩ => ⟨g, cap, cur, k1, by omega, k3⟩⟩
set_option maxHeartbeats 4000000 in
theorem run_openN (N : Int) (n L : Nat) (hN : max N 0 = (n : Int)) (h : Mch w t bs H S) (hS : S.Ok L) (hB : Bo t bs) (hn : n ≤ 1048576) (hs : S.s + n ≤ 10000000000) (hL : L + 512 * n ≤ 100000000) (S2 : PM) (h2 : runM t bs n S = S2) (he : S2.e ≠ 0) (hp2 : S2.p.length ≤ 1000000000) : Calls Tryd.prog 10 #[ptr H.mb, .int .i64 N] w fun e w' => ∃ vp, e = .returned (.agg #[.int .i64 S2.e, .int .i64 0, vp, .slice none 0 0, .int .i64 (S2.s : Int)]) ∧ w'.ownsRow w.heap.size 2 1 vp S2.p.length (S2.p.map fun x => .int .i64 x) ∧ ∃ H', Mch w' t bs H' S2 ∧ Tn w H w' H' ∧ (∀ b, vp.ownBlock = some b → ¬ own H' b) := by
  have hBw : Below w.heap.size w (w.alloc (.cells #[.int .i64 0, .int .i64 0, .slice none 0 0, .slice none 0 0, .int .i64 0] 42)) := (Below.refl _ _).alloc (Nat.le_refl _) _
  have HG : Hid (Calls Tryd.prog 28 #[ptr H.mb, .int .i64 (n : Int)] (w.alloc (.cells #[.int .i64 0, .int .i64 0, .slice none 0 0, .slice none 0 0, .int .i64 0] 42)) fun e w' => e = .returned (.tuple #[]) ∧ ∃ H', Mch w' t bs H' S2 ∧ Tn (w.alloc (.cells #[.int .i64 0, .int .i64 0, .slice none 0 0, .slice none 0 0, .int .i64 0] 42)) H w' H') := by
    have := goOn_any n L (h.up hBw) hS hB hs hL
    rw [h2] at this
    exact this
  have HA : Hid (At (w.alloc (.cells #[.int .i64 0, .int .i64 0, .slice none 0 0, .slice none 0 0, .int .i64 0] 42)) w.heap.size #[.int .i64 0, .int .i64 0, .slice none 0 0, .slice none 0 0, .int .i64 0] ∧ ¬ own H w.heap.size) := ⟨At.new _ _ _, fun e => absurd (own_lt h e) (by omega)⟩
  have HE0 : Hid (S2.e ≠ 0) := he
  have HB0 : Hid (∀ V, Fr (own H) w V → BsAt V H.ba bs) := h.bF
  clear h hS hB hs hL h2 he hBw
  have n0 : (0 : Int) ≤ (n : Int) := by omega
  have n1 : (n : Int) ≤ 1048576 := by omega
  have n2 : ¬ (n : Int) < 0 := by omega
  have n3 : max N 0 = (n : Int) := hN
  have n4 : min (n : Int) 1048576 = (n : Int) := by omega
  go_enter Tryd.func10, Tryd.ntmps10
  go_upto_region 4 with (first
    | (go_at_call 28; refine Calls.mono HG.out ?_; rintro e w1 ⟨rfl, H1, m1, t1⟩; have HM : Hid (Mch w1 t bs H1 S2 ∧ Tn w H w1 H1 ∧ H1.mb = H.mb ∧ ¬ own H1 w.heap.size ∧ At w1 w.heap.size #[.int .i64 0, .int .i64 0, .slice none 0 0, .slice none 0 0, .int .i64 0]) := ⟨m1, (Tn.of ((Below.refl _ _).alloc (Nat.le_refl _) _)).trans t1, t1.q, fun e => (t1.t _ e).elim HA.out.2 (fun e => by rw [World.size_alloc] at e; omega), At.frb HA.out.1 t1.f HA.out.2⟩; clear m1 t1))
  have HK : Hid (∀ V, Below w1.heap.size w1 V → (H.mb < V.heap.size ∧ V.cell? ⟨H.mb, 312, none⟩ = some (.int .i64 S2.e) ∧ V.cell? ⟨H.mb, 314, none⟩ = some H1.pv ∧ V.cell? ⟨H.mb, 315, none⟩ = some (.int .i64 (S2.s : Int))) ∧ Mch V t bs H1 S2) := fun V hV => by
    have m := HM.out.1.up hV
    have e0 := m.c.lt
    have e1 := m.c.e
    have e2 := m.c.p
    have e3 := m.c.s
    rw [HM.out.2.2.1] at e0 e1 e2 e3
    exact ⟨⟨e0, e1, e2, e3⟩, m⟩
  have HCl : Hid (∀ V, Below w1.heap.size w1 V → Calls Tryd.prog 29 #[H1.pv] V fun e w' => ∃ v', e = .returned v' ∧ Cf V w' v' S2.p.length (S2.p.map fun x => .int .i64 x)) := fun V hV => clone_row H1.pv S2.p V (by omega) (HK.out V hV).2.pp
  have HR : Hid (∀ (V V2 : World) (bx : Nat) (vp : Value) (B : Nat), Below w1.heap.size w1 V → w1.heap.size ≤ bx → At V bx #[.int .i64 S2.e, .int .i64 0, vp, .slice none 0 0, .int .i64 (S2.s : Int)] → w1.heap.size ≤ B → V.ownsRow B 2 1 vp S2.p.length (S2.p.map fun x => .int .i64 x) → vp.ownBlock ≠ some bx → Below V.heap.size V V2 → Ro w V2 t bs H S2 bx vp) := fun V V2 bx vp B hV hbx hx hB hp hb hV2 => by
    have hw : w.heap.size < w1.heap.size := HM.out.2.2.2.2.lt
    have hb2 : Below w1.heap.size w1 V2 := hV.trans (hV2.mono hV.size)
    refine ⟨⟨H1, (HM.out.1.up hb2), HM.out.2.1.up hb2, HM.out.2.2.1, HM.out.2.2.2.1, fun e => absurd (own_lt HM.out.1 e) (by omega), fun b hb' e => by have := (hp.lt b hb').1; have := own_lt HM.out.1 e; omega⟩, HM.out.2.2.2.2.below hb2 hw, hx.below hV2 hx.lt, by omega, ?_, hb⟩
    have hp2 := row_up hp hV2
    exact ⟨hp2.1, hp2.2.imp id fun ⟨g, cap, cur, k1, k2, k3⟩ => ⟨g, cap, cur, k1, by omega, k3⟩⟩
  go_cut [5] (fun v wc => ∃ bx vp, v = .pointer (some ⟨bx, 0, none⟩) ∧ Ro w wc t bs H S2 bx vp)
  case first =>
    refine wp_region_held_drew (S := fun W' => Below w1.heap.size w1 W') (by kernel_rfl) (drew_up _) (fun hHeld => ?_)
    refine wpAnyH_take (i := 0) (v := ptr H.mb) rfl (by kernel_rfl) (by kernel_rfl) (by kernel_rfl) (fun _ _ _ h => h) (Or.inl ⟨by rfl, fun w' hSw => by (go_simp)⟩) hHeld ?_
    simp only [Act.put, List.setIfInBounds_toArray, List.set_cons_zero, List.set_cons_succ, List.getElem_cons_zero, List.getElem_toArray]
    refine wpAnyH_take (i := 1) (v := ptr H.mb) rfl (by kernel_rfl) (by kernel_rfl) (by kernel_rfl) (fun _ _ _ h => h) (Or.inl ⟨by rfl, fun w' hSw => by (go_simp)⟩) hHeld ?_
    simp only [Act.put, List.setIfInBounds_toArray, List.set_cons_zero, List.set_cons_succ, List.getElem_cons_zero, List.getElem_cons_succ, List.getElem_toArray]
    refine wpAnyH_take (i := 2) (v := .pointer (some ⟨H.mb, 312, none⟩)) rfl (by kernel_rfl) (by kernel_rfl) (by kernel_rfl) (fun _ _ _ h => h) (Or.inl ⟨by rfl, fun w' hSw => by (go_simp)⟩) hHeld ?_
    simp only [Act.put, List.setIfInBounds_toArray, List.set_cons_zero, List.set_cons_succ, List.getElem_cons_zero, List.getElem_cons_succ, List.getElem_toArray]
    refine wpAnyH_take (i := 3) (v := .int .i64 S2.e) rfl (by kernel_rfl) (by kernel_rfl) (by kernel_rfl) (fun _ _ _ h => h) (Or.inl ⟨by rfl, fun w' hSw => by (have hk := (HK.out _ hSw).1; obtain ⟨ql, s0, s1, s2⟩ := hk; go_simp)⟩) hHeld ?_
    simp only [Act.put, List.setIfInBounds_toArray, List.set_cons_zero, List.set_cons_succ, List.getElem_cons_zero, List.getElem_cons_succ, List.getElem_toArray]
    refine wpAnyH_take (i := 4) (v := ptr H.mb) rfl (by kernel_rfl) (by kernel_rfl) (by kernel_rfl) (fun _ _ _ h => h) (Or.inl ⟨by rfl, fun w' hSw => by (go_simp)⟩) hHeld ?_
    simp only [Act.put, List.setIfInBounds_toArray, List.set_cons_zero, List.set_cons_succ, List.getElem_cons_zero, List.getElem_cons_succ, List.getElem_toArray]
    refine wpAnyH_take (i := 5) (v := ptr H.mb) rfl (by kernel_rfl) (by kernel_rfl) (by kernel_rfl) (fun _ _ _ h => h) (Or.inl ⟨by rfl, fun w' hSw => by (go_simp)⟩) hHeld ?_
    simp only [Act.put, List.setIfInBounds_toArray, List.set_cons_zero, List.set_cons_succ, List.getElem_cons_zero, List.getElem_cons_succ, List.getElem_toArray]
    refine wpAnyH_take (i := 6) (v := .pointer (some ⟨H.mb, 314, none⟩)) rfl (by kernel_rfl) (by kernel_rfl) (by kernel_rfl) (fun _ _ _ h => h) (Or.inl ⟨by rfl, fun w' hSw => by (go_simp)⟩) hHeld ?_
    simp only [Act.put, List.setIfInBounds_toArray, List.set_cons_zero, List.set_cons_succ, List.getElem_cons_zero, List.getElem_cons_succ, List.getElem_toArray]
    refine wpAnyH_take (i := 7) (v := H1.pv) rfl (by kernel_rfl) (by kernel_rfl) (by kernel_rfl) (fun _ _ _ h => h) (Or.inl ⟨by rfl, fun w' hSw => by (have hk := (HK.out _ hSw).1; obtain ⟨ql, s0, s1, s2⟩ := hk; go_simp)⟩) hHeld ?_
    simp only [Act.put, List.setIfInBounds_toArray, List.set_cons_zero, List.set_cons_succ, List.getElem_cons_zero, List.getElem_cons_succ, List.getElem_toArray]
    refine wpAnyH_take (i := 9) (v := ptr H.mb) rfl (by kernel_rfl) (by kernel_rfl) (by kernel_rfl) (fun _ _ _ h => h) (Or.inl ⟨by rfl, fun w' hSw => by (go_simp)⟩) hHeld ?_
    simp only [Act.put, List.setIfInBounds_toArray, List.set_cons_zero, List.set_cons_succ, List.getElem_cons_zero, List.getElem_cons_succ, List.getElem_toArray]
    refine wpAnyH_take (i := 10) (v := ptr H.mb) rfl (by kernel_rfl) (by kernel_rfl) (by kernel_rfl) (fun _ _ _ h => h) (Or.inl ⟨by rfl, fun w' hSw => by (go_simp)⟩) hHeld ?_
    simp only [Act.put, List.setIfInBounds_toArray, List.set_cons_zero, List.set_cons_succ, List.getElem_cons_zero, List.getElem_cons_succ, List.getElem_toArray]
    refine wpAnyH_take (i := 11) (v := .pointer (some ⟨H.mb, 315, none⟩)) rfl (by kernel_rfl) (by kernel_rfl) (by kernel_rfl) (fun _ _ _ h => h) (Or.inl ⟨by rfl, fun w' hSw => by (go_simp)⟩) hHeld ?_
    simp only [Act.put, List.setIfInBounds_toArray, List.set_cons_zero, List.set_cons_succ, List.getElem_cons_zero, List.getElem_cons_succ, List.getElem_toArray]
    refine wpAnyH_take (i := 12) (v := .int .i64 (S2.s : Int)) rfl (by kernel_rfl) (by kernel_rfl) (by kernel_rfl) (fun _ _ _ h => h) (Or.inl ⟨by rfl, fun w' hSw => by (have hk := (HK.out _ hSw).1; obtain ⟨ql, s0, s1, s2⟩ := hk; go_simp)⟩) hHeld ?_
    simp only [Act.put, List.setIfInBounds_toArray, List.set_cons_zero, List.set_cons_succ, List.getElem_cons_zero, List.getElem_cons_succ, List.getElem_toArray]
    refine wpAnyH_ready (rs := [8, 14]) (by kernel_rfl) (by simp) ?_
    refine AllReadyH.cons rfl (fun K hK => ?_) (AllReadyH.cons rfl (fun K hK => ?_) AllReadyH.nil)
    · go_simp
      refine Calls.mono (HCl.out _ hHeld) ?_
      rintro e w2 ⟨vp, rfl, hc⟩
      have HX : Hid (Below w1.heap.size w1 w2) := (drew_up w1).trans hc.b
      obtain ⟨ao, c, rfl⟩ := row_slice hc.r
      have HF : Hid (w2.ownsRow w1.heap.size 2 1 (.slice ao S2.p.length c) S2.p.length (S2.p.map fun x => .int .i64 x)) := hc.r
      clear hc
      refine hK.out _ _ HX.out (fun hHeld => ?_)
      clear hK K
      refine wpAnyH_take (i := 13) (v := .agg #[.int .i64 S2.e, .int .i64 0, .slice ao S2.p.length c, .slice none 0 0, .int .i64 (S2.s : Int)]) rfl (by kernel_rfl) (by kernel_rfl) (by kernel_rfl) (fun _ _ _ h => h) (Or.inl ⟨by rfl, fun w' hSw => by (go_simp)⟩) hHeld ?_
      simp only [Act.put, List.setIfInBounds_toArray, List.set_cons_zero, List.set_cons_succ, List.getElem_cons_zero, List.getElem_cons_succ, List.getElem_toArray]
      refine wpAnyH_ready (rs := [14]) (by kernel_rfl) (by simp) ?_
      refine AllReadyH.cons rfl (fun K hK => ?_) AllReadyH.nil
      go_simp
      refine hK.out _ _ (Below.alloc HX.out HX.out.size _) (fun hHeld => ?_)
      clear hK K
      refine wpAnyH_ready (rs := [15]) (by kernel_rfl) (by simp) ?_
      refine AllReadyH.cons rfl (fun K hK => ?_) AllReadyH.nil
      go_simp
      refine hK.out _ _ (Below.alloc HX.out HX.out.size _) (fun hHeld => ?_)
      clear hK K
      refine wpAnyH_done (by kernel_rfl) ?_ _
      clear hHeld
      go_wp2_with fail
      go_meet
      exact ⟨_, _, rfl, HR.out _ _ _ _ _ (Below.alloc HX.out HX.out.size _) HX.out.size (At.new _ _ _) (Nat.le_refl _) (row_up HF.out ((Below.refl _ _).alloc (Nat.le_refl _) _)) (fun e => absurd (HF.out.lt _ e).2 (by omega)) (Below.refl _ _)⟩
    · go_simp
      have HX0 : Hid (Below w1.heap.size w1 (w1.alloc (.cells #[.int .i64 0, .int .i64 0, .slice none 0 0, .slice none 0 0, .int .i64 0] 42)).drew) := ((Below.refl _ _).alloc (Nat.le_refl _) _).drew
      refine hK.out _ _ HX0.out (fun hHeld => ?_)
      clear hK K
      have HAt : Hid (At (w1.alloc (.cells #[.int .i64 0, .int .i64 0, .slice none 0 0, .slice none 0 0, .int .i64 0] 42)).drew w1.heap.size #[.int .i64 0, .int .i64 0, .slice none 0 0, .slice none 0 0, .int .i64 0]) := (At.new w1 #[.int .i64 0, .int .i64 0, .slice none 0 0, .slice none 0 0, .int .i64 0] 42).below (drew_up _) (by simp)
      have HSz : Hid ((w1.alloc (.cells #[.int .i64 0, .int .i64 0, .slice none 0 0, .slice none 0 0, .int .i64 0] 42)).drew.heap.size = w1.heap.size + 1) := by show (w1.alloc (.cells #[.int .i64 0, .int .i64 0, .slice none 0 0, .slice none 0 0, .int .i64 0] 42)).heap.size = _; simp
      generalize (w1.alloc (.cells #[.int .i64 0, .int .i64 0, .slice none 0 0, .slice none 0 0, .int .i64 0] 42)).drew = A at *
      refine wpAnyH_ready (rs := [8]) (by kernel_rfl) (by simp) ?_
      refine AllReadyH.cons rfl (fun K hK => ?_) AllReadyH.nil
      go_simp
      refine Calls.mono (HCl.out _ hHeld) ?_
      rintro e w2 ⟨vp, rfl, hc⟩
      have HX : Hid (Below w1.heap.size w1 w2 ∧ At w2 w1.heap.size #[.int .i64 0, .int .i64 0, .slice none 0 0, .slice none 0 0, .int .i64 0]) := ⟨HX0.out.trans (hc.b.mono HX0.out.size), HAt.out.below hc.b HAt.out.lt⟩
      obtain ⟨ao, c, rfl⟩ := row_slice hc.r
      have HF : Hid (w2.ownsRow (w1.heap.size + 1) 2 1 (.slice ao S2.p.length c) S2.p.length (S2.p.map fun x => .int .i64 x)) := (by have := hc.r; rw [HSz.out] at this; exact this)
      clear hc
      refine hK.out _ _ HX.out.1 (fun hHeld => ?_)
      clear hK K
      refine wpAnyH_take (i := 13) (v := .agg #[.int .i64 S2.e, .int .i64 0, .slice ao S2.p.length c, .slice none 0 0, .int .i64 (S2.s : Int)]) rfl (by kernel_rfl) (by kernel_rfl) (by kernel_rfl) (fun _ _ _ h => h) (Or.inl ⟨by rfl, fun w' hSw => by (go_simp)⟩) hHeld ?_
      simp only [Act.put, List.setIfInBounds_toArray, List.set_cons_zero, List.set_cons_succ, List.getElem_cons_zero, List.getElem_cons_succ, List.getElem_toArray]
      have z0 := HX.out.2.c 0 _ rfl
      have z1 := HX.out.2.c 1 _ rfl
      have z2 := HX.out.2.c 2 _ rfl
      have z3 := HX.out.2.c 3 _ rfl
      have z4 := HX.out.2.c 4 _ rfl
      have zf := HX.out.2.f
      have zl := HX.out.2.lt
      refine wpAnyH_ready (rs := [15]) (by kernel_rfl) (by simp) ?_
      refine AllReadyH.cons rfl (fun K hK => ?_) AllReadyH.nil
      go_simp
      have HX5 : Hid (Below w1.heap.size w1 (((((w2.setCell ⟨w1.heap.size, 0, none⟩ (.int .i64 S2.e)).setCell ⟨w1.heap.size, 1, none⟩ (.int .i64 0)).setCell ⟨w1.heap.size, 2, none⟩ (.slice ao S2.p.length c)).setCell ⟨w1.heap.size, 3, none⟩ (.slice none 0 0)).setCell ⟨w1.heap.size, 4, none⟩ (.int .i64 (S2.s : Int))) ∧ Fr (One w1.heap.size) w2 (((((w2.setCell ⟨w1.heap.size, 0, none⟩ (.int .i64 S2.e)).setCell ⟨w1.heap.size, 1, none⟩ (.int .i64 0)).setCell ⟨w1.heap.size, 2, none⟩ (.slice ao S2.p.length c)).setCell ⟨w1.heap.size, 3, none⟩ (.slice none 0 0)).setCell ⟨w1.heap.size, 4, none⟩ (.int .i64 (S2.s : Int))) ∧ At (((((w2.setCell ⟨w1.heap.size, 0, none⟩ (.int .i64 S2.e)).setCell ⟨w1.heap.size, 1, none⟩ (.int .i64 0)).setCell ⟨w1.heap.size, 2, none⟩ (.slice ao S2.p.length c)).setCell ⟨w1.heap.size, 3, none⟩ (.slice none 0 0)).setCell ⟨w1.heap.size, 4, none⟩ (.int .i64 (S2.s : Int))) w1.heap.size #[.int .i64 S2.e, .int .i64 0, .slice ao S2.p.length c, .slice none 0 0, .int .i64 (S2.s : Int)]) := by
        have f : Fr (One w1.heap.size) w2 (((((w2.setCell ⟨w1.heap.size, 0, none⟩ (.int .i64 S2.e)).setCell ⟨w1.heap.size, 1, none⟩ (.int .i64 0)).setCell ⟨w1.heap.size, 2, none⟩ (.slice ao S2.p.length c)).setCell ⟨w1.heap.size, 3, none⟩ (.slice none 0 0)).setCell ⟨w1.heap.size, 4, none⟩ (.int .i64 (S2.s : Int))) := (((((Fr.refl (One w1.heap.size) w2).setCell (.inr rfl) _ _).setCell (.inr rfl) _ _).setCell (.inr rfl) _ _).setCell (.inr rfl) _ _).setCell (.inr rfl) _ _
        exact ⟨HX.out.1.trans (f.below HX.out.1.size fun b hb e => by have e : b = w1.heap.size := e; omega), f, At.setk (k := 4) (At.setk (k := 3) (At.setk (k := 2) (At.setk (k := 1) (At.setk (k := 0) HX.out.2 (by simp)) (by simp)) (by simp)) (by simp)) (by simp)⟩
      refine hK.out _ _ HX5.out.1 (fun hHeld => ?_)
      clear hK K z0 z1 z2 z3 z4 zf zl
      refine wpAnyH_done (by kernel_rfl) ?_ _
      clear hHeld
      generalize (((((w2.setCell ⟨w1.heap.size, 0, none⟩ (.int .i64 S2.e)).setCell ⟨w1.heap.size, 1, none⟩ (.int .i64 0)).setCell ⟨w1.heap.size, 2, none⟩ (.slice ao S2.p.length c)).setCell ⟨w1.heap.size, 3, none⟩ (.slice none 0 0)).setCell ⟨w1.heap.size, 4, none⟩ (.int .i64 (S2.s : Int))) = Z at *
      go_wp2_with fail
      go_meet
      exact ⟨_, _, rfl, HR.out _ _ _ _ (w1.heap.size + 1) HX5.out.1 (Nat.le_refl _) HX5.out.2.2 (by omega) (row_fr HF.out HX5.out.2.1 fun b e e2 => by have e2 : b = w1.heap.size := e2; have := (HF.out.lt b e).1; omega) (fun e => by have := (HF.out.lt _ e).1; omega) (Below.refl _ _)⟩
  case rest =>
    obtain ⟨bx, vp, rfl, hro⟩ := hcut
    obtain ⟨ao, c, rfl⟩ := row_slice hro.pr
    obtain ⟨H3, m3, t3, q3, n3, n4, n5⟩ := hro.mm
    have HRo : Hid (Ro w wc t bs H S2 bx (.slice ao S2.p.length c) ∧ Mch wc t bs H3 S2 ∧ Tn w H wc H3 ∧ H3.mb = H.mb ∧ ¬ own H3 w.heap.size ∧ ¬ own H3 bx ∧ ∀ b, (Value.slice ao S2.p.length c).ownBlock = some b → ¬ own H3 b) := ⟨hro, m3, t3, q3, n3, n4, n5⟩
    have e0 := m3.c.e
    have el := m3.c.lt
    rw [q3] at e0 el
    have hE := HE0.out
    have x0 := hro.x.c 0 _ rfl
    have x1 := hro.x.c 1 _ rfl
    have x2 := hro.x.c 2 _ rfl
    have x3 := hro.x.c 3 _ rfl
    have x4 := hro.x.c 4 _ rfl
    have xl := hro.x.lt
    have r0 := hro.r.c 0 _ rfl
    have r1 := hro.r.c 1 _ rfl
    have r2 := hro.r.c 2 _ rfl
    have r3 := hro.r.c 3 _ rfl
    have r4 := hro.r.c 4 _ rfl
    have rf := hro.r.f
    have rl := hro.r.lt
    clear hro m3 t3 q3 n3 n4 n5 HK HCl HR HM HA HG
    go_wp2_with fail
    have gF : Fr (One w.heap.size) wc (((((wc.setCell ⟨w.heap.size, 0, none⟩ (.int .i64 S2.e)).setCell ⟨w.heap.size, 1, none⟩ (.int .i64 0)).setCell ⟨w.heap.size, 2, none⟩ (.slice ao S2.p.length c)).setCell ⟨w.heap.size, 3, none⟩ (.slice none 0 0)).setCell ⟨w.heap.size, 4, none⟩ (.int .i64 (S2.s : Int))) := (((((Fr.refl (One w.heap.size) wc).setCell (.inr rfl) _ _).setCell (.inr rfl) _ _).setCell (.inr rfl) _ _).setCell (.inr rfl) _ _).setCell (.inr rfl) _ _
    have hz := HRo.out.2.2.1.f.size
    have tn : Tn w H (((((wc.setCell ⟨w.heap.size, 0, none⟩ (.int .i64 S2.e)).setCell ⟨w.heap.size, 1, none⟩ (.int .i64 0)).setCell ⟨w.heap.size, 2, none⟩ (.slice ao S2.p.length c)).setCell ⟨w.heap.size, 3, none⟩ (.slice none 0 0)).setCell ⟨w.heap.size, 4, none⟩ (.int .i64 (S2.s : Int))) H3 := ⟨HRo.out.2.2.1.f.trans gF fun b hb e => by
      have e : b = w.heap.size := e
      omega, HRo.out.2.2.1.t, HRo.out.2.2.1.q, HRo.out.2.2.1.a⟩
    have hp := HRo.out.1.pr
    refine bodyPost_ret (v := .agg #[.int .i64 S2.e, .int .i64 0, .slice ao S2.p.length c, .slice none 0 0, .int .i64 (S2.s : Int)]) (by simp [results, Tryd.results10, go_sem, r0, r1, r2, r3, r4]) rfl ⟨_, rfl, ?_, H3, HRo.out.2.1.aside gF (fun b e => by
      have e : b = w.heap.size := e
      rw [e]; exact HRo.out.2.2.2.2.1) (bF_go HB0.out tn tn.a), tn, HRo.out.2.2.2.2.2.2⟩
    have hp2 := row_fr hp gF fun b e e2 => by
      have := (hp.lt b e).1
      have e2 : b = w.heap.size := e2
      omega
    exact ⟨hp2.1, hp2.2.imp id fun ⟨g, cap, cur, k1, k2, k3⟩ => ⟨g, cap, cur, k1, by omega, k3⟩⟩
theorem run_anyN (N : Int) (n L : Nat) (hN : max N 0 = (n : Int)) (h : Mch w t bs H S) (hS : S.Ok L) (hB : Bo t bs) (hn : n ≤ 1048576) (hs : S.s + n ≤ 10000000000) (hL : L + 512 * n ≤ 100000000) : Calls Tryd.prog 10 #[ptr H.mb, .int .i64 N] w (RunOut w t bs H (runM t bs n S)) := by
  have hp : (runM t bs n S).p.length ≤ 1000000000 := by have := (run_ok hB n hS).1.p; omega
  by_cases he : (runM t bs n S).e = 0
  · refine (run_doneN N n L hN h hS hB hn hs hL _ rfl he hp).mono ?_
    rintro e w' ⟨vp, vm, rfl, h1, h2, H', h3, h4, h5, h6⟩
    obtain ⟨po, pc, rfl⟩ := row_slice h1
    obtain ⟨mo, mc, rfl⟩ := row_slice h2
    have hm : memL (runM t bs n S) = mL (runM t bs n S) := by unfold memL; rw [if_pos he]
    have hv : vI (runM t bs n S) = (runM t bs n S).v := by unfold vI; rw [if_pos he]
    rw [nums_m] at h2
    refine ⟨po, pc, mo, mc, ?_, h1, ?_, H', h3, h4, h5, ?_⟩
    · rw [hm, hv, he, mL_len]
    · rw [hm, mL_len]; exact h2
    · rw [hm, mL_len]; exact h6
  · refine (run_openN N n L hN h hS hB hn hs hL _ rfl he hp).mono ?_
    rintro e w' ⟨vp, rfl, h1, H', h3, h4, h5⟩
    obtain ⟨po, pc, rfl⟩ := row_slice h1
    have hm : memL (runM t bs n S) = [] := by unfold memL; rw [if_neg he]
    have hv : vI (runM t bs n S) = 0 := by unfold vI; rw [if_neg he]
    refine ⟨po, pc, none, 0, ?_, h1, ?_, H', h3, h4, h5, fun b hb => by cases hb⟩
    · rw [hm, hv]; rfl
    · rw [hm]; exact World.ownsRow_nil _ _ _ _
end
end Go.Proofs.YtldfjlepbbmhnaaDoor.Pp
