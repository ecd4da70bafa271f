/- The document's machine: a cycle (Step), read off the program by the walk. Conditions: the machine lies in memory, its bundles are well formed. -/
import Derived.Test.YtldfjlepbbmhnaaDoorZg
namespace Go.Proofs.YtldfjlepbbmhnaaDoor.Pp
open Go.ChangeShapes Go.WideShapes Go.ChangeAt Go.RowKit
open _root_.Go.Proofs.YtldfjlepbbmhnaaDoor.Op _root_.Go.Proofs.YtldfjlepbbmhnaaDoor.So _root_.Go.Proofs.YtldfjlepbbmhnaaDoor.Bu
open _root_.Go.Proofs.YtldfjlepbbmhnaaDoor.Tb (Tab TabAt Bnds)
set_option maxRecDepth 20000

section
variable {W : World} {t : Tab} {bs : List Bn} {H : Rx} {R : RM} {L : Nat}
def atX (t : Tab) (T : RM) (x : Bn) : RM := if (bdR t T (restO x 4)).en then endR (bdR t T (restO x 4)) else nextR (bdR t T (restO x 4))
/-- What every bundle and the table hold. -/
structure Bp (t : Tab) (bs : List Bn) : Prop where
  b : Bo t bs
  n : ∀ x ∈ bs, ∀ k, k < 4 → ∀ o ∈ x.l k, o.op ≠ 0
  tt : ∀ k, k < 4 → 1 ≤ t.l k ∧ t.l k ≤ 8
  d : 0 ≤ t.d ∧ t.d ≤ 7
theorem rstep_ended (h : Rch W t bs H R) (he : R.en = true) : Calls Tryd.prog 30 #[ptr H.mb] W fun e w' => StP W t bs H (stB bs R) (cyR t bs R) e w' := by
  have e1 : stB bs R = false := by unfold stB; rw [he]; rfl
  have e2 : cyR t bs R = R := by unfold cyR; rw [if_pos he]
  rw [e1, e2]
  have q0 := h.c.en
  rw [he] at q0
  have ql := h.c.lt
  have HM : Hid (Rch W t bs H R) := h
  clear h e1 e2
  go_enter Tryd.func30, Tryd.ntmps30
  go_wp2_with fail
  go_ret
  exact ⟨rfl, H, HM.out, Rn.of (Below.refl _ _)⟩
set_option maxHeartbeats 8000000 in
theorem rstep_open (h : Rch W t bs H R) (hR : R.Ok L) (hL : L ≤ 100000000) (hs : R.s ≤ 99999999999) (hB : Bp t bs) (he : R.en = false) : Calls Tryd.prog 30 #[ptr H.mb] W fun e w' => StP W t bs H (stB bs R) (cyR t bs R) e w' := by
  have HL1 : Hid (Calls Tryd.prog 49 #[ptr H.mb] W fun e w' => IrP W t bs H (landR R) e w') := rland_any L h hR (by omega)
  have HL2 : Hid (∀ V H', Rch V t bs H' (landR R) → H'.mb = H.mb → Calls Tryd.prog 50 #[ptr H.mb] V fun e w' => IrP V t bs H' (turnR (landR R)) e w') := fun V H' m e => by
    have := rturn_any L m (landR_ok hR) (by omega)
    rw [e] at this
    exact this
  have q0 := h.c.en
  rw [he] at q0
  have ql := h.c.lt
  have hO := turnR_ok (landR_ok hR)
  have hTs : (turnR (landR R)).s = R.s := (landR_se R).1
  have hTe : (turnR (landR R)).en = false := (landR_se R).2.trans he
  have e2 : cyR t bs R = goR t bs (turnR (landR R)) := by unfold cyR; rw [if_neg (by rw [he]; decide)]
  have e1 : stB bs R = decide (0 ≤ (turnR (landR R)).a ∧ (turnR (landR R)).a < (bs.length : Int)) := by unfold stB; rw [he]; rfl
  rw [e1, e2]
  have hs1 : (turnR (landR R)).s ≤ 99999999999 := by rw [hTs]; exact hs
  clear h hR hs he e1 e2 hTs
  have HB : Hid (Bp t bs) := hB
  have hbl := hB.b.b
  clear hB
  generalize turnR (landR R) = T at *
  by_cases ha : 0 ≤ T.a ∧ T.a < (bs.length : Int)
  · rw [show decide (0 ≤ T.a ∧ T.a < (bs.length : Int)) = true from decide_eq_true ha]
    have hgo : goR t bs T = atR t bs T := by unfold goR; rw [if_pos ha]
    rw [hgo]
    obtain ⟨a0, a1⟩ := ha
    have hi : T.a.toNat < bs.length := by omega
    have hgx : atR t bs T = atX t T bs[T.a.toNat] := by
      unfold atR atX
      rw [show bs.getD T.a.toNat ⟨fun _ => []⟩ = bs[T.a.toNat] by rw [List.getD_eq_getElem?_getD, List.getElem?_eq_getElem hi]; rfl]
    rw [hgx]
    have hmem : bs[T.a.toNat] ∈ bs := List.getElem_mem hi
    have HO : Hid (∀ k, k < 4 → ∀ o ∈ bs[T.a.toNat].l k, OkM o ∧ o.op ≠ 0) := fun k hk o ho => ⟨HB.out.b.o _ hmem k hk o ho, HB.out.n _ hmem k hk o ho⟩
    have hxn := HB.out.b.n _ hmem
    have HFx : Hid (∀ (w1 : World) (H1 : Rx), Rch w1 t bs H1 T → ∃ b f p, H1.ba = some ⟨b, f, none⟩ ∧ b < w1.heap.size ∧ NAt w1 b (f + T.a.toNat * 4) bs[T.a.toNat] p ∧ ∀ V, Fr (rown H1) w1 V → BnIn V bs[T.a.toNat] p) := fun w1 H1 hm => rbs_fixed hm hi
    clear hmem hgo hgx
    generalize bs[T.a.toNat] = x at *
    have n1 : ¬ T.a < 0 := by omega
    have n2 : ¬ (bs.length : Int) ≤ T.a := by omega
    go_enter Tryd.func30, Tryd.ntmps30
    go_upto_region 5 with (first | (go_at_call 49; refine Calls.mono HL1.out ?_; rintro e w1 ⟨rfl, H1, m1, t1⟩; have HM1 : Hid (Rch w1 t bs H1 (landR R) ∧ Rn W H w1 H1 ∧ H1.mb = H.mb) := ⟨m1, t1, t1.q⟩; clear m1 t1) | (go_at_call 50; refine Calls.mono (HL2.out w1 H1 HM1.out.1 HM1.out.2.2) ?_; rintro e w2 ⟨rfl, H2, m2, t2⟩; have HM : Hid (Rch w2 t bs H2 T ∧ Rn W H w2 H2 ∧ H2.mb = H.mb) := ⟨m2, HM1.out.2.1.trans t2, t2.q.trans HM1.out.2.2⟩; clear m2 t2))
    clear HL1 HL2 HM1 q0 ql
    obtain ⟨b, f, p, hba, hb1, hna, hbn⟩ := HFx.out w2 H2 HM.out.1
    have HBn : Hid (∀ V, Fr (rown H2) w2 V → BnIn V x p) := hbn
    have HQ : Hid (∀ V, Below w2.heap.size w2 V → H.mb < V.heap.size ∧ V.cell? ⟨H.mb, 16, none⟩ = some (.int .i64 T.a) ∧ V.cell? ⟨H.mb, 0, none⟩ = some (.slice (some ⟨b, f, none⟩) bs.length H2.bc) ∧ b < V.heap.size ∧ V.cell? ⟨b, f + T.a.toNat * 4, none⟩ = some (.slice (p.a 0) (x.l 0).length (p.c 0)) ∧ V.cell? ⟨b, f + T.a.toNat * 4 + 1, none⟩ = some (.slice (p.a 1) (x.l 1).length (p.c 1)) ∧ V.cell? ⟨b, f + T.a.toNat * 4 + 2, none⟩ = some (.slice (p.a 2) (x.l 2).length (p.c 2)) ∧ V.cell? ⟨b, f + T.a.toNat * 4 + 3, none⟩ = some (.slice (p.a 3) (x.l 3).length (p.c 3))) := fun V hV => by
      have m := (HM.out.1.up hV).c
      have k1 := m.lt
      have k2 := m.a
      have k3 := m.b
      rw [HM.out.2.2] at k1 k2 k3
      rw [hba] at k3
      have hn := hna.below hV hb1
      have q0 := hn.c 0 (by decide)
      rw [Nat.add_zero] at q0
      exact ⟨k1, k2, k3, Nat.lt_of_lt_of_le hb1 hV.size, q0, hn.c 1 (by decide), hn.c 2 (by decide), hn.c 3 (by decide)⟩
    clear hbn hna
    refine wp_region_held_drew (S := fun V => H.mb < V.heap.size ∧ V.cell? ⟨H.mb, 16, none⟩ = some (.int .i64 T.a) ∧ V.cell? ⟨H.mb, 0, none⟩ = some (.slice (some ⟨b, f, none⟩) bs.length H2.bc) ∧ b < V.heap.size ∧ V.cell? ⟨b, f + T.a.toNat * 4, none⟩ = some (.slice (p.a 0) (x.l 0).length (p.c 0)) ∧ V.cell? ⟨b, f + T.a.toNat * 4 + 1, none⟩ = some (.slice (p.a 1) (x.l 1).length (p.c 1)) ∧ V.cell? ⟨b, f + T.a.toNat * 4 + 2, none⟩ = some (.slice (p.a 2) (x.l 2).length (p.c 2)) ∧ V.cell? ⟨b, f + T.a.toNat * 4 + 3, none⟩ = some (.slice (p.a 3) (x.l 3).length (p.c 3))) (by kernel_rfl) (HQ.out _ (drew_up _)) (fun hHeld => ?_)
    refine wpAnyH_take (i := 0) (v := .pointer (some ⟨H.mb, 0, none⟩)) rfl (by kernel_rfl) (by kernel_rfl) (by kernel_rfl) (fun _ _ _ h => h) (Or.inl ⟨by rfl, fun w' hSw => by (go_simp)⟩) hHeld ?_
    simp only [Act.put, List.setIfInBounds_toArray, List.set_cons_zero, List.set_cons_succ, List.getElem_cons_zero, List.getElem_toArray]
    refine wpAnyH_take (i := 1) (v := .pointer (some ⟨H.mb, 0, none⟩)) rfl (by kernel_rfl) (by kernel_rfl) (by kernel_rfl) (fun _ _ _ h => h) (Or.inl ⟨by rfl, fun w' hSw => by (go_simp)⟩) hHeld ?_
    simp only [Act.put, List.setIfInBounds_toArray, List.set_cons_zero, List.set_cons_succ, List.getElem_cons_zero, List.getElem_cons_succ, List.getElem_toArray]
    refine wpAnyH_take (i := 2) (v := .pointer (some ⟨H.mb, 16, none⟩)) rfl (by kernel_rfl) (by kernel_rfl) (by kernel_rfl) (fun _ _ _ h => h) (Or.inl ⟨by rfl, fun w' hSw => by (go_simp)⟩) hHeld ?_
    simp only [Act.put, List.setIfInBounds_toArray, List.set_cons_zero, List.set_cons_succ, List.getElem_cons_zero, List.getElem_cons_succ, List.getElem_toArray]
    refine wpAnyH_take (i := 3) (v := .int .i64 T.a) rfl (by kernel_rfl) (by kernel_rfl) (by kernel_rfl) (fun _ _ _ h => h) (Or.inl ⟨by rfl, fun w' hSw => by (have y := hSw.2.1; have yl := hSw.1; go_simp)⟩) hHeld ?_
    simp only [Act.put, List.setIfInBounds_toArray, List.set_cons_zero, List.set_cons_succ, List.getElem_cons_zero, List.getElem_cons_succ, List.getElem_toArray]
    refine wpAnyH_take (i := 4) (v := .bool false) rfl (by kernel_rfl) (by kernel_rfl) (by kernel_rfl) (fun _ _ _ h => h) (Or.inl ⟨by rfl, fun w' hSw => by (go_simp)⟩) hHeld ?_
    simp only [Act.put, List.setIfInBounds_toArray, List.set_cons_zero, List.set_cons_succ, List.getElem_cons_zero, List.getElem_cons_succ, List.getElem_toArray]
    refine wpAnyH_take (i := 5) (v := .bool false) rfl (by kernel_rfl) (by kernel_rfl) (by kernel_rfl) (fun _ _ _ h => h) (Or.inl ⟨by rfl, fun w' hSw => by (go_simp)⟩) hHeld ?_
    simp only [Act.put, List.setIfInBounds_toArray, List.set_cons_zero, List.set_cons_succ, List.getElem_cons_zero, List.getElem_cons_succ, List.getElem_toArray]
    refine wpAnyH_take (i := 6) (v := .pointer (some ⟨H.mb, 0, none⟩)) rfl (by kernel_rfl) (by kernel_rfl) (by kernel_rfl) (fun _ _ _ h => h) (Or.inl ⟨by rfl, fun w' hSw => by (go_simp)⟩) hHeld ?_
    simp only [Act.put, List.setIfInBounds_toArray, List.set_cons_zero, List.set_cons_succ, List.getElem_cons_zero, List.getElem_cons_succ, List.getElem_toArray]
    refine wpAnyH_take (i := 7) (v := .pointer (some ⟨H.mb, 0, none⟩)) rfl (by kernel_rfl) (by kernel_rfl) (by kernel_rfl) (fun _ _ _ h => h) (Or.inl ⟨by rfl, fun w' hSw => by (go_simp)⟩) hHeld ?_
    simp only [Act.put, List.setIfInBounds_toArray, List.set_cons_zero, List.set_cons_succ, List.getElem_cons_zero, List.getElem_cons_succ, List.getElem_toArray]
    refine wpAnyH_take (i := 8) (v := .pointer (some ⟨H.mb, 16, none⟩)) rfl (by kernel_rfl) (by kernel_rfl) (by kernel_rfl) (fun _ _ _ h => h) (Or.inl ⟨by rfl, fun w' hSw => by (go_simp)⟩) hHeld ?_
    simp only [Act.put, List.setIfInBounds_toArray, List.set_cons_zero, List.set_cons_succ, List.getElem_cons_zero, List.getElem_cons_succ, List.getElem_toArray]
    refine wpAnyH_take (i := 9) (v := .int .i64 T.a) rfl (by kernel_rfl) (by kernel_rfl) (by kernel_rfl) (fun _ _ _ h => h) (Or.inl ⟨by rfl, fun w' hSw => by (have y := hSw.2.1; have yl := hSw.1; go_simp)⟩) hHeld ?_
    simp only [Act.put, List.setIfInBounds_toArray, List.set_cons_zero, List.set_cons_succ, List.getElem_cons_zero, List.getElem_cons_succ, List.getElem_toArray]
    refine wpAnyH_take (i := 10) (v := .pointer (some ⟨H.mb, 0, none⟩)) rfl (by kernel_rfl) (by kernel_rfl) (by kernel_rfl) (fun _ _ _ h => h) (Or.inl ⟨by rfl, fun w' hSw => by (go_simp)⟩) hHeld ?_
    simp only [Act.put, List.setIfInBounds_toArray, List.set_cons_zero, List.set_cons_succ, List.getElem_cons_zero, List.getElem_cons_succ, List.getElem_toArray]
    refine wpAnyH_take (i := 11) (v := .pointer (some ⟨H.mb, 0, none⟩)) rfl (by kernel_rfl) (by kernel_rfl) (by kernel_rfl) (fun _ _ _ h => h) (Or.inl ⟨by rfl, fun w' hSw => by (go_simp)⟩) hHeld ?_
    simp only [Act.put, List.setIfInBounds_toArray, List.set_cons_zero, List.set_cons_succ, List.getElem_cons_zero, List.getElem_cons_succ, List.getElem_toArray]
    refine wpAnyH_take (i := 12) (v := .pointer (some ⟨H.mb, 0, none⟩)) rfl (by kernel_rfl) (by kernel_rfl) (by kernel_rfl) (fun _ _ _ h => h) (Or.inl ⟨by rfl, fun w' hSw => by (go_simp)⟩) hHeld ?_
    simp only [Act.put, List.setIfInBounds_toArray, List.set_cons_zero, List.set_cons_succ, List.getElem_cons_zero, List.getElem_cons_succ, List.getElem_toArray]
    refine wpAnyH_take (i := 13) (v := .slice (some ⟨b, f, none⟩) bs.length H2.bc) rfl (by kernel_rfl) (by kernel_rfl) (by kernel_rfl) (fun _ _ _ h => h) (Or.inl ⟨by rfl, fun w' hSw => by (have y := hSw.2.2.1; have yl := hSw.1; go_simp)⟩) hHeld ?_
    simp only [Act.put, List.setIfInBounds_toArray, List.set_cons_zero, List.set_cons_succ, List.getElem_cons_zero, List.getElem_cons_succ, List.getElem_toArray]
    refine wpAnyH_take (i := 14) (v := .int .i64 (bs.length : Int)) rfl (by kernel_rfl) (by kernel_rfl) (by kernel_rfl) (fun _ _ _ h => h) (Or.inl ⟨by rfl, fun w' hSw => by (go_simp)⟩) hHeld ?_
    simp only [Act.put, List.setIfInBounds_toArray, List.set_cons_zero, List.set_cons_succ, List.getElem_cons_zero, List.getElem_cons_succ, List.getElem_toArray]
    refine wpAnyH_take (i := 15) (v := .bool false) rfl (by kernel_rfl) (by kernel_rfl) (by kernel_rfl) (fun _ _ _ h => h) (Or.inl ⟨by rfl, fun w' hSw => by (go_simp)⟩) hHeld ?_
    simp only [Act.put, List.setIfInBounds_toArray, List.set_cons_zero, List.set_cons_succ, List.getElem_cons_zero, List.getElem_cons_succ, List.getElem_toArray]
    refine wpAnyH_take (i := 16) (v := .bool false) rfl (by kernel_rfl) (by kernel_rfl) (by kernel_rfl) (fun _ _ _ h => h) (Or.inl ⟨by rfl, fun w' hSw => by (go_simp)⟩) hHeld ?_
    simp only [Act.put, List.setIfInBounds_toArray, List.set_cons_zero, List.set_cons_succ, List.getElem_cons_zero, List.getElem_cons_succ, List.getElem_toArray]
    refine wpAnyH_done (by kernel_rfl) ?_ _
    clear hHeld
    go_upto_region 8 with fail
    refine wp_region_held_drew (S := fun V => H.mb < V.heap.size ∧ V.cell? ⟨H.mb, 16, none⟩ = some (.int .i64 T.a) ∧ V.cell? ⟨H.mb, 0, none⟩ = some (.slice (some ⟨b, f, none⟩) bs.length H2.bc) ∧ b < V.heap.size ∧ V.cell? ⟨b, f + T.a.toNat * 4, none⟩ = some (.slice (p.a 0) (x.l 0).length (p.c 0)) ∧ V.cell? ⟨b, f + T.a.toNat * 4 + 1, none⟩ = some (.slice (p.a 1) (x.l 1).length (p.c 1)) ∧ V.cell? ⟨b, f + T.a.toNat * 4 + 2, none⟩ = some (.slice (p.a 2) (x.l 2).length (p.c 2)) ∧ V.cell? ⟨b, f + T.a.toNat * 4 + 3, none⟩ = some (.slice (p.a 3) (x.l 3).length (p.c 3))) (by kernel_rfl) (HQ.out _ (drew_two w2)) (fun hHeld => ?_)
    refine wpAnyH_take (i := 0) (v := .pointer (some ⟨H.mb, 0, none⟩)) rfl (by kernel_rfl) (by kernel_rfl) (by kernel_rfl) (fun _ _ _ h => h) (Or.inl ⟨by rfl, fun w' hSw => by (go_simp)⟩) hHeld ?_
    simp only [Act.put, List.setIfInBounds_toArray, List.set_cons_zero, List.set_cons_succ, List.getElem_cons_zero, List.getElem_toArray]
    refine wpAnyH_take (i := 1) (v := .pointer (some ⟨H.mb, 0, none⟩)) rfl (by kernel_rfl) (by kernel_rfl) (by kernel_rfl) (fun _ _ _ h => h) (Or.inl ⟨by rfl, fun w' hSw => by (go_simp)⟩) hHeld ?_
    simp only [Act.put, List.setIfInBounds_toArray, List.set_cons_zero, List.set_cons_succ, List.getElem_cons_zero, List.getElem_cons_succ, List.getElem_toArray]
    refine wpAnyH_take (i := 2) (v := .pointer (some ⟨H.mb, 0, none⟩)) rfl (by kernel_rfl) (by kernel_rfl) (by kernel_rfl) (fun _ _ _ h => h) (Or.inl ⟨by rfl, fun w' hSw => by (go_simp)⟩) hHeld ?_
    simp only [Act.put, List.setIfInBounds_toArray, List.set_cons_zero, List.set_cons_succ, List.getElem_cons_zero, List.getElem_cons_succ, List.getElem_toArray]
    refine wpAnyH_take (i := 3) (v := .slice (some ⟨b, f, none⟩) bs.length H2.bc) rfl (by kernel_rfl) (by kernel_rfl) (by kernel_rfl) (fun _ _ _ h => h) (Or.inl ⟨by rfl, fun w' hSw => by (have y := hSw.2.2.1; have yl := hSw.1; go_simp)⟩) hHeld ?_
    simp only [Act.put, List.setIfInBounds_toArray, List.set_cons_zero, List.set_cons_succ, List.getElem_cons_zero, List.getElem_cons_succ, List.getElem_toArray]
    refine wpAnyH_take (i := 4) (v := .pointer (some ⟨H.mb, 0, none⟩)) rfl (by kernel_rfl) (by kernel_rfl) (by kernel_rfl) (fun _ _ _ h => h) (Or.inl ⟨by rfl, fun w' hSw => by (go_simp)⟩) hHeld ?_
    simp only [Act.put, List.setIfInBounds_toArray, List.set_cons_zero, List.set_cons_succ, List.getElem_cons_zero, List.getElem_cons_succ, List.getElem_toArray]
    refine wpAnyH_take (i := 5) (v := .pointer (some ⟨H.mb, 0, none⟩)) rfl (by kernel_rfl) (by kernel_rfl) (by kernel_rfl) (fun _ _ _ h => h) (Or.inl ⟨by rfl, fun w' hSw => by (go_simp)⟩) hHeld ?_
    simp only [Act.put, List.setIfInBounds_toArray, List.set_cons_zero, List.set_cons_succ, List.getElem_cons_zero, List.getElem_cons_succ, List.getElem_toArray]
    refine wpAnyH_take (i := 6) (v := .pointer (some ⟨H.mb, 16, none⟩)) rfl (by kernel_rfl) (by kernel_rfl) (by kernel_rfl) (fun _ _ _ h => h) (Or.inl ⟨by rfl, fun w' hSw => by (go_simp)⟩) hHeld ?_
    simp only [Act.put, List.setIfInBounds_toArray, List.set_cons_zero, List.set_cons_succ, List.getElem_cons_zero, List.getElem_cons_succ, List.getElem_toArray]
    refine wpAnyH_take (i := 7) (v := .int .i64 T.a) rfl (by kernel_rfl) (by kernel_rfl) (by kernel_rfl) (fun _ _ _ h => h) (Or.inl ⟨by rfl, fun w' hSw => by (have y := hSw.2.1; have yl := hSw.1; go_simp)⟩) hHeld ?_
    simp only [Act.put, List.setIfInBounds_toArray, List.set_cons_zero, List.set_cons_succ, List.getElem_cons_zero, List.getElem_cons_succ, List.getElem_toArray]
    refine wpAnyH_take (i := 8) (v := .pointer (some ⟨b, f + T.a.toNat * 4, none⟩)) rfl (by kernel_rfl) (by kernel_rfl) (by kernel_rfl) (fun _ _ _ h => h) (Or.inl ⟨by rfl, fun w' hSw => by (go_simp)⟩) hHeld ?_
    simp only [Act.put, List.setIfInBounds_toArray, List.set_cons_zero, List.set_cons_succ, List.getElem_cons_zero, List.getElem_cons_succ, List.getElem_toArray]
    refine wpAnyH_take (i := 9) (v := .agg #[.slice (p.a 0) (x.l 0).length (p.c 0), .slice (p.a 1) (x.l 1).length (p.c 1), .slice (p.a 2) (x.l 2).length (p.c 2), .slice (p.a 3) (x.l 3).length (p.c 3)]) rfl (by kernel_rfl) (by kernel_rfl) (by kernel_rfl) (fun _ _ _ h => h) (Or.inl ⟨by rfl, fun w' hSw => by (have ql := hSw.2.2.2.1; have y0 := hSw.2.2.2.2.1; have y1 := hSw.2.2.2.2.2.1; have y2 := hSw.2.2.2.2.2.2.1; have y3 := hSw.2.2.2.2.2.2.2; go_simp)⟩) hHeld ?_
    simp only [Act.put, List.setIfInBounds_toArray, List.set_cons_zero, List.set_cons_succ, List.getElem_cons_zero, List.getElem_cons_succ, List.getElem_toArray]
    refine wpAnyH_ready (rs := [10]) (by kernel_rfl) (by simp) ?_
    refine AllReadyH.cons rfl (fun K hK => ?_) AllReadyH.nil
    go_simp
    refine hK.out _ _ (HQ.out _ (((drew_two w2).alloc (Nat.le_refl _) _))) (fun hHeld => ?_)
    clear hK K
    refine wpAnyH_ready (rs := [11]) (by kernel_rfl) (by simp) ?_
    refine AllReadyH.cons rfl (fun K hK => ?_) AllReadyH.nil
    go_simp
    refine hK.out _ _ (HQ.out _ (((Below.refl _ w2).alloc (Nat.le_refl _) _).drew.drew)) (fun hHeld => ?_)
    clear hK K
    refine wpAnyH_done (by kernel_rfl) ?_ _
    clear hHeld HQ HFx
    have gz : Below w2.heap.size w2 ((w2.alloc (.cells #[.slice (p.a 0) (x.l 0).length (p.c 0), .slice (p.a 1) (x.l 1).length (p.c 1), .slice (p.a 2) (x.l 2).length (p.c 2), .slice (p.a 3) (x.l 3).length (p.c 3)] 63)).drew.drew) := ((Below.refl _ w2).alloc (Nat.le_refl _) _).drew.drew
    have HC0 : Hid (Rw ((w2.alloc (.cells #[.slice (p.a 0) (x.l 0).length (p.c 0), .slice (p.a 1) (x.l 1).length (p.c 1), .slice (p.a 2) (x.l 2).length (p.c 2), .slice (p.a 3) (x.l 3).length (p.c 3)] 63)).drew.drew) H2 t bs T x p w2.heap.size H.mb (L + 128 * 0) ((w2.alloc (.cells #[.slice (p.a 0) (x.l 0).length (p.c 0), .slice (p.a 1) (x.l 1).length (p.c 1), .slice (p.a 2) (x.l 2).length (p.c 2), .slice (p.a 3) (x.l 3).length (p.c 3)] 63)).drew.drew) (restO x (4 - 0))) := ⟨⟨H2, T, HM.out.1.up gz, Rn.of (Below.refl _ _), rfl, rfl, rfl, hTe, hO, HM.out.2.2⟩, ⟨fun k hk => by
      have hA : At ((w2.alloc (.cells #[.slice (p.a 0) (x.l 0).length (p.c 0), .slice (p.a 1) (x.l 1).length (p.c 1), .slice (p.a 2) (x.l 2).length (p.c 2), .slice (p.a 3) (x.l 3).length (p.c 3)] 63)).drew.drew) w2.heap.size #[.slice (p.a 0) (x.l 0).length (p.c 0), .slice (p.a 1) (x.l 1).length (p.c 1), .slice (p.a 2) (x.l 2).length (p.c 2), .slice (p.a 3) (x.l 3).length (p.c 3)] := At.frb (At.new w2 #[.slice (p.a 0) (x.l 0).length (p.c 0), .slice (p.a 1) (x.l 1).length (p.c 1), .slice (p.a 2) (x.l 2).length (p.c 2), .slice (p.a 3) (x.l 3).length (p.c 3)] 63) (Fr.of (X := Non) ((Below.refl _ _).drew.drew)) (fun e => e)
      rw [Nat.zero_add]
      match k, hk with
      | 0, _ => exact hA.c 0 _ rfl
      | 1, _ => exact hA.c 1 _ rfl
      | 2, _ => exact hA.c 2 _ rfl
      | 3, _ => exact hA.c 3 _ rfl⟩⟩
    have HZ : Hid (¬ rown H2 w2.heap.size ∧ Rn W H ((w2.alloc (.cells #[.slice (p.a 0) (x.l 0).length (p.c 0), .slice (p.a 1) (x.l 1).length (p.c 1), .slice (p.a 2) (x.l 2).length (p.c 2), .slice (p.a 3) (x.l 3).length (p.c 3)] 63)).drew.drew) H2 ∧ w2.heap.size < ((w2.alloc (.cells #[.slice (p.a 0) (x.l 0).length (p.c 0), .slice (p.a 1) (x.l 1).length (p.c 1), .slice (p.a 2) (x.l 2).length (p.c 2), .slice (p.a 3) (x.l 3).length (p.c 3)] 63)).drew.drew).heap.size ∧ ∀ V, Fr (rown H2) ((w2.alloc (.cells #[.slice (p.a 0) (x.l 0).length (p.c 0), .slice (p.a 1) (x.l 1).length (p.c 1), .slice (p.a 2) (x.l 2).length (p.c 2), .slice (p.a 3) (x.l 3).length (p.c 3)] 63)).drew.drew) V → BnIn V x p) := ⟨fun ⟨i, hi, e⟩ => absurd (HM.out.1.blt i hi _ e) (by omega), HM.out.2.1.trans (Rn.of gz), by show w2.heap.size < (w2.alloc _).heap.size; rw [World.size_alloc]; omega, fun V hV => HBn.out V ((Fr.of (X := rown H2) gz).same hV)⟩
    clear gz hO hTe
    generalize ((w2.alloc (.cells #[.slice (p.a 0) (x.l 0).length (p.c 0), .slice (p.a 1) (x.l 1).length (p.c 1), .slice (p.a 2) (x.l 2).length (p.c 2), .slice (p.a 3) (x.l 3).length (p.c 3)] 63)).drew.drew) = Z at *
    have HMq : Hid (H2.mb = H.mb) := HM.out.2.2
    clear HM HBn
    generalize w2.heap.size = bx at *
    have HBx : Hid (∀ wr rest L', Rw Z H2 t bs T x p bx H.mb L' wr rest → bx < wr.heap.size) := fun wr rest L' h => by
      obtain ⟨H3, R3, m3, t3, -⟩ := h.ex
      exact Nat.lt_of_lt_of_le HZ.out.2.2.1 t3.f.size
    go_wp2_with fail
    go_loopw [4, 5] (fun v4 v5 wr => ∃ k n : Nat, k ≤ 4 ∧ v5 = .int .i64 k ∧ v4 = .int .i64 n ∧ n ≤ 128 * k ∧ Hid (Rw Z H2 t bs T x p bx H.mb (L + 128 * k) wr (restO x (4 - k)))) (fun _ v _ => 4 - (intOf v).toNat)
    case atStart => exact ⟨0, 0, by omega, rfl, rfl, by omega, HC0⟩
    case round =>
      rename World => wr
      clear HC0
      obtain ⟨k, n, hk, rfl, rfl, hn, HC⟩ := hrel
      by_cases hlt : k < 4
      · have k0 : (0 : Int) ≤ (k : Int) := by omega
        have k1 : (k : Int) < 4 := by omega
        have hln := hxn k hlt
        have HCd : Hid (Rw Z H2 t bs T x p bx H.mb (L + 128 * k + 0) wr (((x.l k).drop 0).map (fun o => (o, k)) ++ restO x (3 - k))) := by
          obtain ⟨H3, R3, m3, t3, r3, s3, a3, e3, o3, b3⟩ := HC.out.ex
          exact ⟨⟨H3, R3, m3, t3, by rw [r3, restO_at x k hlt]; rfl, s3, a3, e3, o3, b3⟩, HC.out.bx⟩
        clear HC
        go_wp2_with fail
        go_loopw [4, 6] (fun v4 v6 wz => ∃ j m : Nat, j ≤ (x.l k).length ∧ v6 = .int .i64 j ∧ v4 = .int .i64 m ∧ m ≤ 128 * k + j ∧ Hid (Rw Z H2 t bs T x p bx H.mb (L + 128 * k + j) wz (((x.l k).drop j).map (fun o => (o, k)) ++ restO x (3 - k)))) (fun _ v _ => (x.l k).length - (intOf v).toNat)
        case atStart => exact ⟨0, n, by omega, rfl, rfl, by omega, HCd⟩
        case round =>
          rename World => wz
          clear HCd
          obtain ⟨j, m, hj, rfl, rfl, hm, HC⟩ := hrel
          have c0 := HC.out.bx.c k hlt
          rw [Nat.zero_add] at c0
          have c1 := HBx.out _ _ _ HC.out
          by_cases hjl : j < (x.l k).length
          · have j0 : (0 : Int) ≤ (j : Int) := by omega
            have j1 : (j : Int) < ((x.l k).length : Int) := by omega
            obtain ⟨H3, R3, m3, t3, r3, s3, a3, e3, o3, b3⟩ := HC.out.ex
            have hbx := HC.out.bx
            obtain ⟨ob, of', eo, hob, hox⟩ := ((HZ.out.2.2.2 wz t3.f).o k hlt).is (by omega)
            obtain ⟨g0, g1, g2, g3, g4⟩ := hox j hjl
            have hok := HO.out k hlt _ (List.getElem_mem hjl)
            have hdr : (x.l k).drop j = (x.l k)[j] :: (x.l k).drop (j + 1) := List.drop_eq_getElem_cons hjl
            rw [hdr, List.map_cons, List.cons_append, bdR_cons] at r3
            have hS2s : R3.s ≤ 100000000000 := by rw [s3]; omega
            have q5 := m3.c.lg
            have ql := m3.c.lt
            rw [b3] at q5 ql
            clear hdr HC hox
            generalize (x.l k)[j] = o at *
            rw [eo] at c0
            have hww : IntKind.i64.wrap ((m : Int) + 1) = (m : Int) + 1 := by rw [IntKind.wrap_i64]; omega
            have HIs : Hid (Calls Tryd.prog 52 #[ptr H.mb, .int .i64 (k : Int), .agg #[.int .i8 o.op, .int .u8 o.d, .int .u8 o.a, .int .u8 o.b, .int .i64 o.im]] wz fun e w' => IrP wz t bs H3 (issR t k R3 o) e w') := by
              have := rissue_any k (L + 128 * k + j) o m3 o3 (by omega) hS2s HB.out.tt HB.out.d hlt hok.1 hok.2
              rw [b3] at this
              exact this
            have hsa := issR_same t k R3 o
            have hio := iss_ok o3 (by omega) hS2s HB.out.tt HB.out.d hlt hok.1
            have HNb : Hid (∀ w' H', Rn wz H3 w' H' → NAt w' bx 0 x p) := fun w' H' tn => ⟨fun i hi => by
              have hnb : ¬ rown H3 bx := fun e => (t3.t _ e).elim HZ.out.1 (fun e => by have := HZ.out.2.2.1; omega)
              rw [tn.f.cell c1 hnb]
              exact hbx.c i hi⟩
            generalize issR t k R3 o = R4 at *
            cases hE : R4.en with
            | false =>
              rw [hE] at r3
              simp only [Bool.false_eq_true, if_false] at r3
              have HNx : Hid (∀ w', (∃ H', Rch w' t bs H' R4 ∧ Rn wz H3 w' H') → Rw Z H2 t bs T x p bx H.mb (L + 128 * k + (j + 1)) w' (((x.l k).drop (j + 1)).map (fun o => (o, k)) ++ restO x (3 - k)) ∧ w'.cell? ⟨H.mb, 21, none⟩ = some (.bool false) ∧ H.mb < w'.heap.size) := fun w' ⟨H', m4, t4⟩ => by
                have z0 := m4.c.en
                have z1 := m4.c.lt
                rw [t4.q.trans b3] at z0 z1
                rw [hE] at z0
                exact ⟨⟨⟨H', R4, m4, t3.trans t4, r3, hsa.1.trans s3, hsa.2.trans a3, hE, hio, t4.q.trans b3⟩, HNb.out w' H' t4⟩, z0, z1⟩
              clear r3 m3 t3 o3 e3 hE hok hS2s s3 a3 b3 eo hsa hio hbx
              go_wp2_with (first | (go_at_call 52; refine Calls.mono HIs.out ?_; rintro e w4 ⟨rfl, h4⟩; have HC4 : Hid _ := HNx.out w4 h4; have z0 := HC4.out.2.1; have z1 := HC4.out.2.2; clear h4))
              go_roundw
              case rel => exact ⟨j + 1, m + 1, by omega, by go_num, by go_num, by omega, HC4.out.1⟩
              case measure => simp [intOf]; omega
            | true =>
              rw [hE] at r3
              simp only [if_true] at r3
              have HNx : Hid (∀ w', (∃ H', Rch w' t bs H' R4 ∧ Rn wz H3 w' H') → ((∃ H', Rch w' t bs H' R4 ∧ Rn W H w' H' ∧ H'.mb = H.mb) ∧ atX t T x = endR R4) ∧ w'.cell? ⟨H.mb, 21, none⟩ = some (.bool true) ∧ H.mb < w'.heap.size ∧ w'.cell? ⟨H.mb, 18, none⟩ = some (.int .i64 (T.s : Int)) ∧ ∀ i, w'.frozen? ⟨H.mb, i, none⟩ = false) := fun w' ⟨H', m4, t4⟩ => by
                have z0 := m4.c.en
                have z1 := m4.c.lt
                have z2 := m4.c.s
                have z3 := m4.c.fz
                rw [t4.q.trans b3] at z0 z1 z2 z3
                rw [hE] at z0
                rw [hsa.1.trans s3] at z2
                exact ⟨⟨⟨H', m4, HZ.out.2.1.trans (t3.trans t4), t4.q.trans b3⟩, by unfold atX; rw [r3, if_pos hE]⟩, z0, z1, z2, z3⟩
              have HTs : Hid (R4.s = T.s) := hsa.1.trans s3
              have hwt : IntKind.i64.wrap ((T.s : Int) + 1) = (T.s : Int) + 1 := by rw [IntKind.wrap_i64]; omega
              clear r3 m3 t3 o3 e3 hE hok hS2s s3 a3 b3 eo hsa hio hbx
              go_wp2_with (first | (go_at_call 52; refine Calls.mono HIs.out ?_; rintro e w4 ⟨rfl, h4⟩; have HC4 : Hid _ := HNx.out w4 h4; have z0 := HC4.out.2.1; have z1 := HC4.out.2.2.1; have z2 := HC4.out.2.2.2.1; have z3 := HC4.out.2.2.2.2; clear h4))
              go_ret
              obtain ⟨⟨H', m4, t4, q4⟩, ex⟩ := HC4.out.1
              have f1 := m4.one (m4.c.setS (R4.s + 1)) ((Fr.refl (One H'.mb) _).setCell (.inr rfl) _ _) rfl rfl rfl rfl rfl
              rw [HTs.out, q4] at f1
              rw [ex]
              refine ⟨rfl, H', ?_, t4.trans f1.2⟩
              unfold endR
              rw [HTs.out]
              exact f1.1
          · obtain rfl : j = (x.l k).length := by omega
            have j1 : ¬ ((x.l k).length : Int) < ((x.l k).length : Int) := by omega
            have HC4 : Hid (Rw Z H2 t bs T x p bx H.mb (L + 128 * (k + 1)) wz (restO x (4 - (k + 1)))) := by
              obtain ⟨H3, R3, m3, t3, r3, s3, a3, e3, o3, b3⟩ := HC.out.ex
              rw [List.drop_length, List.map_nil, List.nil_append] at r3
              exact ⟨⟨H3, R3, m3, t3, by rw [r3, show 4 - (k + 1) = 3 - k by omega], s3, a3, e3, o3.mono (by omega), b3⟩, HC.out.bx⟩
            clear HC
            go_wp2_with fail
            go_roundw
            case rel => exact ⟨k + 1, m, by omega, by go_num, rfl, by omega, HC4⟩
            case measure => simp [intOf]; omega
      · obtain rfl : k = 4 := by omega
        obtain ⟨H3, R3, m3, t3, r3, s3, a3, e3, o3, b3⟩ := HC.out.ex
        have r3 : bdR t T (restO x 4) = R3 := r3
        have q0 := m3.c.a
        have q1 := m3.c.s
        have q2 := m3.c.fz
        have ql := m3.c.lt
        rw [b3] at q0 q1 q2 ql
        rw [s3] at q1
        rw [a3] at q0
        have hwa : IntKind.i64.wrap (T.a + 1) = T.a + 1 := by rw [IntKind.wrap_i64]; omega
        have hwt : IntKind.i64.wrap ((T.s : Int) + 1) = (T.s : Int) + 1 := by rw [IntKind.wrap_i64]; omega
        have HE : Hid (Rch wr t bs H3 R3 ∧ Rn W H wr H3 ∧ H3.mb = H.mb ∧ atX t T x = nextR R3 ∧ R3.s = T.s ∧ R3.a = T.a) := ⟨m3, HZ.out.2.1.trans t3, b3, by unfold atX; rw [r3, if_neg (by rw [e3]; decide)], s3, a3⟩
        clear m3 t3 r3 s3 a3 e3 o3 b3 HC
        go_wp2_with fail
        go_ret
        obtain ⟨m3, t3, b3, ex, s3, a3⟩ := HE.out
        have f1 := m3.one (m3.c.setA (R3.a + 1)) ((Fr.refl (One H3.mb) _).setCell (.inr rfl) _ _) rfl rfl rfl rfl rfl
        have f2 := f1.1.one (f1.1.c.setS (R3.s + 1)) ((Fr.refl (One H3.mb) _).setCell (.inr rfl) _ _) rfl rfl rfl rfl rfl
        rw [s3, a3, b3] at f2
        rw [ex]
        rw [a3, b3] at f1
        refine ⟨rfl, H3, ?_, t3.trans (f1.2.trans f2.2)⟩
        unfold nextR
        rw [s3, a3]
        exact f2.1
  · rw [show decide (0 ≤ T.a ∧ T.a < (bs.length : Int)) = false from decide_eq_false ha]
    have hgo : goR t bs T = noneR T := by unfold goR; rw [if_neg ha]
    rw [hgo]
    clear hgo
    have HE : Hid (∀ V H', Rch V t bs H' T → H'.mb = H.mb → Calls Tryd.prog 51 #[ptr H.mb, .int .i64 5, .int .i64 0] V fun e w' => e = .returned (.tuple #[]) ∧ Rch w' t bs H' (noneR T) ∧ Rn V H' w' H') := fun V H' m e => by
      have := rend_any 5 0 m
      rw [e] at this
      exact this
    have hna : T.a < 0 ∨ 0 ≤ T.a ∧ (bs.length : Int) ≤ T.a := by omega
    clear ha
    rcases hna with n1 | ⟨a0, n2⟩
    all_goals
      go_enter Tryd.func30, Tryd.ntmps30
      go_upto_region 5 with (first | (go_at_call 49; refine Calls.mono HL1.out ?_; rintro e w1 ⟨rfl, H1, m1, t1⟩; have HM1 : Hid (Rch w1 t bs H1 (landR R) ∧ Rn W H w1 H1 ∧ H1.mb = H.mb) := ⟨m1, t1, t1.q⟩; clear m1 t1) | (go_at_call 50; refine Calls.mono (HL2.out w1 H1 HM1.out.1 HM1.out.2.2) ?_; rintro e w2 ⟨rfl, H2, m2, t2⟩; have HM : Hid (Rch w2 t bs H2 T ∧ Rn W H w2 H2 ∧ H2.mb = H.mb) := ⟨m2, HM1.out.2.1.trans t2, t2.q.trans HM1.out.2.2⟩; clear m2 t2))
      clear HL1 HL2 HM1 q0 ql
      have HQ : Hid (∀ V, Below w2.heap.size w2 V → H.mb < V.heap.size ∧ V.cell? ⟨H.mb, 16, none⟩ = some (.int .i64 T.a) ∧ V.cell? ⟨H.mb, 0, none⟩ = some (.slice H2.ba bs.length H2.bc)) := fun V hV => by
        have m := (HM.out.1.up hV).c
        have k1 := m.lt
        have k2 := m.a
        have k3 := m.b
        rw [HM.out.2.2] at k1 k2 k3
        exact ⟨k1, k2, k3⟩
    · skip
      refine wp_region_held_drew (S := fun V => H.mb < V.heap.size ∧ V.cell? ⟨H.mb, 16, none⟩ = some (.int .i64 T.a) ∧ V.cell? ⟨H.mb, 0, none⟩ = some (.slice H2.ba bs.length H2.bc)) (by kernel_rfl) (HQ.out _ (drew_up _)) (fun hHeld => ?_)
      refine wpAnyH_take (i := 0) (v := .pointer (some ⟨H.mb, 0, none⟩)) rfl (by kernel_rfl) (by kernel_rfl) (by kernel_rfl) (fun _ _ _ h => h) (Or.inl ⟨by rfl, fun w' hSw => by (go_simp)⟩) hHeld ?_
      simp only [Act.put, List.setIfInBounds_toArray, List.set_cons_zero, List.set_cons_succ, List.getElem_cons_zero, List.getElem_toArray]
      refine wpAnyH_take (i := 1) (v := .pointer (some ⟨H.mb, 0, none⟩)) rfl (by kernel_rfl) (by kernel_rfl) (by kernel_rfl) (fun _ _ _ h => h) (Or.inl ⟨by rfl, fun w' hSw => by (go_simp)⟩) hHeld ?_
      simp only [Act.put, List.setIfInBounds_toArray, List.set_cons_zero, List.set_cons_succ, List.getElem_cons_zero, List.getElem_cons_succ, List.getElem_toArray]
      refine wpAnyH_take (i := 2) (v := .pointer (some ⟨H.mb, 16, none⟩)) rfl (by kernel_rfl) (by kernel_rfl) (by kernel_rfl) (fun _ _ _ h => h) (Or.inl ⟨by rfl, fun w' hSw => by (go_simp)⟩) hHeld ?_
      simp only [Act.put, List.setIfInBounds_toArray, List.set_cons_zero, List.set_cons_succ, List.getElem_cons_zero, List.getElem_cons_succ, List.getElem_toArray]
      refine wpAnyH_take (i := 3) (v := .int .i64 T.a) rfl (by kernel_rfl) (by kernel_rfl) (by kernel_rfl) (fun _ _ _ h => h) (Or.inl ⟨by rfl, fun w' hSw => by (have y := hSw.2.1; have yl := hSw.1; go_simp)⟩) hHeld ?_
      simp only [Act.put, List.setIfInBounds_toArray, List.set_cons_zero, List.set_cons_succ, List.getElem_cons_zero, List.getElem_cons_succ, List.getElem_toArray]
      refine wpAnyH_take (i := 4) (v := .bool true) rfl (by kernel_rfl) (by kernel_rfl) (by kernel_rfl) (fun _ _ _ h => h) (Or.inl ⟨by rfl, fun w' hSw => by (go_simp)⟩) hHeld ?_
      simp only [Act.put, List.setIfInBounds_toArray, List.set_cons_zero, List.set_cons_succ, List.getElem_cons_zero, List.getElem_cons_succ, List.getElem_toArray]
      refine wpAnyH_take (i := 5) (v := .bool true) rfl (by kernel_rfl) (by kernel_rfl) (by kernel_rfl) (fun _ _ _ h => h) (Or.inl ⟨by rfl, fun w' hSw => by (go_simp)⟩) hHeld ?_
      simp only [Act.put, List.setIfInBounds_toArray, List.set_cons_zero, List.set_cons_succ, List.getElem_cons_zero, List.getElem_cons_succ, List.getElem_toArray]
      refine wpAnyH_take (i := 6) (v := undef) rfl (by kernel_rfl) (by kernel_rfl) (by kernel_rfl) (fun _ _ _ h => h) (Or.inr ⟨by rfl, rfl⟩) hHeld ?_
      simp only [Act.put, List.setIfInBounds_toArray, List.set_cons_zero, List.set_cons_succ, List.getElem_cons_zero, List.getElem_cons_succ, List.getElem_toArray]
      refine wpAnyH_take (i := 7) (v := undef) rfl (by kernel_rfl) (by kernel_rfl) (by kernel_rfl) (fun _ _ _ h => h) (Or.inr ⟨by rfl, rfl⟩) hHeld ?_
      simp only [Act.put, List.setIfInBounds_toArray, List.set_cons_zero, List.set_cons_succ, List.getElem_cons_zero, List.getElem_cons_succ, List.getElem_toArray]
      refine wpAnyH_take (i := 8) (v := undef) rfl (by kernel_rfl) (by kernel_rfl) (by kernel_rfl) (fun _ _ _ h => h) (Or.inr ⟨by rfl, rfl⟩) hHeld ?_
      simp only [Act.put, List.setIfInBounds_toArray, List.set_cons_zero, List.set_cons_succ, List.getElem_cons_zero, List.getElem_cons_succ, List.getElem_toArray]
      refine wpAnyH_take (i := 9) (v := undef) rfl (by kernel_rfl) (by kernel_rfl) (by kernel_rfl) (fun _ _ _ h => h) (Or.inr ⟨by rfl, rfl⟩) hHeld ?_
      simp only [Act.put, List.setIfInBounds_toArray, List.set_cons_zero, List.set_cons_succ, List.getElem_cons_zero, List.getElem_cons_succ, List.getElem_toArray]
      refine wpAnyH_take (i := 10) (v := undef) rfl (by kernel_rfl) (by kernel_rfl) (by kernel_rfl) (fun _ _ _ h => h) (Or.inr ⟨by rfl, rfl⟩) hHeld ?_
      simp only [Act.put, List.setIfInBounds_toArray, List.set_cons_zero, List.set_cons_succ, List.getElem_cons_zero, List.getElem_cons_succ, List.getElem_toArray]
      refine wpAnyH_take (i := 11) (v := undef) rfl (by kernel_rfl) (by kernel_rfl) (by kernel_rfl) (fun _ _ _ h => h) (Or.inr ⟨by rfl, rfl⟩) hHeld ?_
      simp only [Act.put, List.setIfInBounds_toArray, List.set_cons_zero, List.set_cons_succ, List.getElem_cons_zero, List.getElem_cons_succ, List.getElem_toArray]
      refine wpAnyH_take (i := 12) (v := undef) rfl (by kernel_rfl) (by kernel_rfl) (by kernel_rfl) (fun _ _ _ h => h) (Or.inr ⟨by rfl, rfl⟩) hHeld ?_
      simp only [Act.put, List.setIfInBounds_toArray, List.set_cons_zero, List.set_cons_succ, List.getElem_cons_zero, List.getElem_cons_succ, List.getElem_toArray]
      refine wpAnyH_take (i := 13) (v := undef) rfl (by kernel_rfl) (by kernel_rfl) (by kernel_rfl) (fun _ _ _ h => h) (Or.inr ⟨by rfl, rfl⟩) hHeld ?_
      simp only [Act.put, List.setIfInBounds_toArray, List.set_cons_zero, List.set_cons_succ, List.getElem_cons_zero, List.getElem_cons_succ, List.getElem_toArray]
      refine wpAnyH_take (i := 14) (v := undef) rfl (by kernel_rfl) (by kernel_rfl) (by kernel_rfl) (fun _ _ _ h => h) (Or.inr ⟨by rfl, rfl⟩) hHeld ?_
      simp only [Act.put, List.setIfInBounds_toArray, List.set_cons_zero, List.set_cons_succ, List.getElem_cons_zero, List.getElem_cons_succ, List.getElem_toArray]
      refine wpAnyH_take (i := 15) (v := undef) rfl (by kernel_rfl) (by kernel_rfl) (by kernel_rfl) (fun _ _ _ h => h) (Or.inr ⟨by rfl, rfl⟩) hHeld ?_
      simp only [Act.put, List.setIfInBounds_toArray, List.set_cons_zero, List.set_cons_succ, List.getElem_cons_zero, List.getElem_cons_succ, List.getElem_toArray]
      refine wpAnyH_take (i := 16) (v := .bool true) rfl (by kernel_rfl) (by kernel_rfl) (by kernel_rfl) (fun _ _ _ h => h) (Or.inl ⟨by rfl, fun w' hSw => by (go_simp)⟩) hHeld ?_
      simp only [Act.put, List.setIfInBounds_toArray, List.set_cons_zero, List.set_cons_succ, List.getElem_cons_zero, List.getElem_cons_succ, List.getElem_toArray]
      refine wpAnyH_done (by kernel_rfl) ?_ _
      have HY : Hid (∀ V, Below w2.heap.size w2 V → Rch V t bs H2 T ∧ Rn W H V H2) := fun V hV => ⟨HM.out.1.up hV, HM.out.2.1.up hV⟩
      clear hHeld HQ
      go_wp2_with (first | (go_at_call 51; refine Calls.mono (HE.out _ H2 (HY.out _ (drew_up _)).1 HM.out.2.2) ?_; rintro e w5 ⟨rfl, m5, t5⟩; have HZ : Hid (∃ H', Rch w5 t bs H' (noneR T) ∧ Rn W H w5 H') := ⟨H2, m5, (HY.out _ (drew_up _)).2.trans t5⟩; clear m5 t5))
      go_ret
      exact ⟨rfl, HZ.out⟩
    · skip
      refine wp_region_held_drew (S := fun V => H.mb < V.heap.size ∧ V.cell? ⟨H.mb, 16, none⟩ = some (.int .i64 T.a) ∧ V.cell? ⟨H.mb, 0, none⟩ = some (.slice H2.ba bs.length H2.bc)) (by kernel_rfl) (HQ.out _ (drew_up _)) (fun hHeld => ?_)
      refine wpAnyH_take (i := 0) (v := .pointer (some ⟨H.mb, 0, none⟩)) rfl (by kernel_rfl) (by kernel_rfl) (by kernel_rfl) (fun _ _ _ h => h) (Or.inl ⟨by rfl, fun w' hSw => by (go_simp)⟩) hHeld ?_
      simp only [Act.put, List.setIfInBounds_toArray, List.set_cons_zero, List.set_cons_succ, List.getElem_cons_zero, List.getElem_toArray]
      refine wpAnyH_take (i := 1) (v := .pointer (some ⟨H.mb, 0, none⟩)) rfl (by kernel_rfl) (by kernel_rfl) (by kernel_rfl) (fun _ _ _ h => h) (Or.inl ⟨by rfl, fun w' hSw => by (go_simp)⟩) hHeld ?_
      simp only [Act.put, List.setIfInBounds_toArray, List.set_cons_zero, List.set_cons_succ, List.getElem_cons_zero, List.getElem_cons_succ, List.getElem_toArray]
      refine wpAnyH_take (i := 2) (v := .pointer (some ⟨H.mb, 16, none⟩)) rfl (by kernel_rfl) (by kernel_rfl) (by kernel_rfl) (fun _ _ _ h => h) (Or.inl ⟨by rfl, fun w' hSw => by (go_simp)⟩) hHeld ?_
      simp only [Act.put, List.setIfInBounds_toArray, List.set_cons_zero, List.set_cons_succ, List.getElem_cons_zero, List.getElem_cons_succ, List.getElem_toArray]
      refine wpAnyH_take (i := 3) (v := .int .i64 T.a) rfl (by kernel_rfl) (by kernel_rfl) (by kernel_rfl) (fun _ _ _ h => h) (Or.inl ⟨by rfl, fun w' hSw => by (have y := hSw.2.1; have yl := hSw.1; go_simp)⟩) hHeld ?_
      simp only [Act.put, List.setIfInBounds_toArray, List.set_cons_zero, List.set_cons_succ, List.getElem_cons_zero, List.getElem_cons_succ, List.getElem_toArray]
      refine wpAnyH_take (i := 4) (v := .bool false) rfl (by kernel_rfl) (by kernel_rfl) (by kernel_rfl) (fun _ _ _ h => h) (Or.inl ⟨by rfl, fun w' hSw => by (go_simp)⟩) hHeld ?_
      simp only [Act.put, List.setIfInBounds_toArray, List.set_cons_zero, List.set_cons_succ, List.getElem_cons_zero, List.getElem_cons_succ, List.getElem_toArray]
      refine wpAnyH_take (i := 5) (v := .bool false) rfl (by kernel_rfl) (by kernel_rfl) (by kernel_rfl) (fun _ _ _ h => h) (Or.inl ⟨by rfl, fun w' hSw => by (go_simp)⟩) hHeld ?_
      simp only [Act.put, List.setIfInBounds_toArray, List.set_cons_zero, List.set_cons_succ, List.getElem_cons_zero, List.getElem_cons_succ, List.getElem_toArray]
      refine wpAnyH_take (i := 6) (v := .pointer (some ⟨H.mb, 0, none⟩)) rfl (by kernel_rfl) (by kernel_rfl) (by kernel_rfl) (fun _ _ _ h => h) (Or.inl ⟨by rfl, fun w' hSw => by (go_simp)⟩) hHeld ?_
      simp only [Act.put, List.setIfInBounds_toArray, List.set_cons_zero, List.set_cons_succ, List.getElem_cons_zero, List.getElem_cons_succ, List.getElem_toArray]
      refine wpAnyH_take (i := 7) (v := .pointer (some ⟨H.mb, 0, none⟩)) rfl (by kernel_rfl) (by kernel_rfl) (by kernel_rfl) (fun _ _ _ h => h) (Or.inl ⟨by rfl, fun w' hSw => by (go_simp)⟩) hHeld ?_
      simp only [Act.put, List.setIfInBounds_toArray, List.set_cons_zero, List.set_cons_succ, List.getElem_cons_zero, List.getElem_cons_succ, List.getElem_toArray]
      refine wpAnyH_take (i := 8) (v := .pointer (some ⟨H.mb, 16, none⟩)) rfl (by kernel_rfl) (by kernel_rfl) (by kernel_rfl) (fun _ _ _ h => h) (Or.inl ⟨by rfl, fun w' hSw => by (go_simp)⟩) hHeld ?_
      simp only [Act.put, List.setIfInBounds_toArray, List.set_cons_zero, List.set_cons_succ, List.getElem_cons_zero, List.getElem_cons_succ, List.getElem_toArray]
      refine wpAnyH_take (i := 9) (v := .int .i64 T.a) rfl (by kernel_rfl) (by kernel_rfl) (by kernel_rfl) (fun _ _ _ h => h) (Or.inl ⟨by rfl, fun w' hSw => by (have y := hSw.2.1; have yl := hSw.1; go_simp)⟩) hHeld ?_
      simp only [Act.put, List.setIfInBounds_toArray, List.set_cons_zero, List.set_cons_succ, List.getElem_cons_zero, List.getElem_cons_succ, List.getElem_toArray]
      refine wpAnyH_take (i := 10) (v := .pointer (some ⟨H.mb, 0, none⟩)) rfl (by kernel_rfl) (by kernel_rfl) (by kernel_rfl) (fun _ _ _ h => h) (Or.inl ⟨by rfl, fun w' hSw => by (go_simp)⟩) hHeld ?_
      simp only [Act.put, List.setIfInBounds_toArray, List.set_cons_zero, List.set_cons_succ, List.getElem_cons_zero, List.getElem_cons_succ, List.getElem_toArray]
      refine wpAnyH_take (i := 11) (v := .pointer (some ⟨H.mb, 0, none⟩)) rfl (by kernel_rfl) (by kernel_rfl) (by kernel_rfl) (fun _ _ _ h => h) (Or.inl ⟨by rfl, fun w' hSw => by (go_simp)⟩) hHeld ?_
      simp only [Act.put, List.setIfInBounds_toArray, List.set_cons_zero, List.set_cons_succ, List.getElem_cons_zero, List.getElem_cons_succ, List.getElem_toArray]
      refine wpAnyH_take (i := 12) (v := .pointer (some ⟨H.mb, 0, none⟩)) rfl (by kernel_rfl) (by kernel_rfl) (by kernel_rfl) (fun _ _ _ h => h) (Or.inl ⟨by rfl, fun w' hSw => by (go_simp)⟩) hHeld ?_
      simp only [Act.put, List.setIfInBounds_toArray, List.set_cons_zero, List.set_cons_succ, List.getElem_cons_zero, List.getElem_cons_succ, List.getElem_toArray]
      refine wpAnyH_take (i := 13) (v := .slice H2.ba bs.length H2.bc) rfl (by kernel_rfl) (by kernel_rfl) (by kernel_rfl) (fun _ _ _ h => h) (Or.inl ⟨by rfl, fun w' hSw => by (have y := hSw.2.2; have yl := hSw.1; go_simp)⟩) hHeld ?_
      simp only [Act.put, List.setIfInBounds_toArray, List.set_cons_zero, List.set_cons_succ, List.getElem_cons_zero, List.getElem_cons_succ, List.getElem_toArray]
      refine wpAnyH_take (i := 14) (v := .int .i64 (bs.length : Int)) rfl (by kernel_rfl) (by kernel_rfl) (by kernel_rfl) (fun _ _ _ h => h) (Or.inl ⟨by rfl, fun w' hSw => by (go_simp)⟩) hHeld ?_
      simp only [Act.put, List.setIfInBounds_toArray, List.set_cons_zero, List.set_cons_succ, List.getElem_cons_zero, List.getElem_cons_succ, List.getElem_toArray]
      refine wpAnyH_take (i := 15) (v := .bool true) rfl (by kernel_rfl) (by kernel_rfl) (by kernel_rfl) (fun _ _ _ h => h) (Or.inl ⟨by rfl, fun w' hSw => by (go_simp)⟩) hHeld ?_
      simp only [Act.put, List.setIfInBounds_toArray, List.set_cons_zero, List.set_cons_succ, List.getElem_cons_zero, List.getElem_cons_succ, List.getElem_toArray]
      refine wpAnyH_take (i := 16) (v := .bool true) rfl (by kernel_rfl) (by kernel_rfl) (by kernel_rfl) (fun _ _ _ h => h) (Or.inl ⟨by rfl, fun w' hSw => by (go_simp)⟩) hHeld ?_
      simp only [Act.put, List.setIfInBounds_toArray, List.set_cons_zero, List.set_cons_succ, List.getElem_cons_zero, List.getElem_cons_succ, List.getElem_toArray]
      refine wpAnyH_done (by kernel_rfl) ?_ _
      have HY : Hid (∀ V, Below w2.heap.size w2 V → Rch V t bs H2 T ∧ Rn W H V H2) := fun V hV => ⟨HM.out.1.up hV, HM.out.2.1.up hV⟩
      clear hHeld HQ
      go_wp2_with (first | (go_at_call 51; refine Calls.mono (HE.out _ H2 (HY.out _ (drew_up _)).1 HM.out.2.2) ?_; rintro e w5 ⟨rfl, m5, t5⟩; have HZ : Hid (∃ H', Rch w5 t bs H' (noneR T) ∧ Rn W H w5 H') := ⟨H2, m5, (HY.out _ (drew_up _)).2.trans t5⟩; clear m5 t5))
      go_ret
      exact ⟨rfl, HZ.out⟩
theorem rstep_any (h : Rch W t bs H R) (hR : R.Ok L) (hL : L ≤ 100000000) (hs : R.s ≤ 99999999999) (hB : Bp t bs) : Calls Tryd.prog 30 #[ptr H.mb] W fun e w' => StP W t bs H (stB bs R) (cyR t bs R) e w' := by
  cases he : R.en
  · exact rstep_open h hR hL hs hB he
  · exact rstep_ended h he
end
end Go.Proofs.YtldfjlepbbmhnaaDoor.Pp
