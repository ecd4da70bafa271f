/- A cycle of the machine (cycle), read off the program by the walk. Conditions: the machine lies in memory, its bundles are well formed. -/
import Derived.Test.YtldfjlepbbmhnaaDoorQh
namespace Go.Proofs.YtldfjlepbbmhnaaDoor.Pp
open Go.ChangeShapes Go.WideShapes Go.ChangeAt Go.RowKit
open _root_.Go.Proofs.YtldfjlepbbmhnaaDoor.Op _root_.Go.Proofs.YtldfjlepbbmhnaaDoor.So _root_.Go.Proofs.YtldfjlepbbmhnaaDoor.Bu
open _root_.Go.Proofs.YtldfjlepbbmhnaaDoor.Tb (Tab TabAt Bnds)
set_option maxRecDepth 20000

section
variable {W : World} {t : Tab} {bs : List Bn} {H : Hx} {S : PM}
theorem drew_two (w : World) : Below w.heap.size w w.drew.drew := ⟨rfl, rfl, rfl, Nat.le_refl _, fun _ _ => rfl⟩
/-- Where a bundle lies, nothing turns. -/
theorem bs_fixed {X : Nat → Prop} {w : World} {ba : Option Addr} (hF : ∀ V, Fr X w V → BsAt V ba bs) {i : Nat} (hi : i < bs.length) : ∃ b f p, ba = some ⟨b, f, none⟩ ∧ b < w.heap.size ∧ NAt w b (f + i * 4) bs[i] p ∧ ∀ V, Fr X w V → BnIn V bs[i] p := by
  obtain ⟨b, f, e, hb, hx⟩ := (hF w (Fr.refl _ _)).is (by omega)
  obtain ⟨p, h1, -⟩ := hx i hi
  have hn : ¬ X b := fun hX => by
    have hV : Fr X w (w.setCell ⟨b, f + i * 4 + 0, none⟩ (.bool true)) := (Fr.refl X w).setCell (.inr hX) _ _
    obtain ⟨b', f', e', -, hx'⟩ := (hF _ hV).is (by omega)
    rw [e] at e'
    injection e' with e'
    injection e' with e1 e2
    subst e1 e2
    obtain ⟨p', h1', -⟩ := hx' i hi
    have c := h1'.c 0 (by decide)
    rw [cell_set (W := w) (b := b) (o := f + i * 4 + 0) (.bool true) (f + i * 4 + 0) ⟨_, h1.c 0 (by decide)⟩, if_pos rfl] at c
    cases c
  refine ⟨b, f, p, e, hb, h1, fun V hV => ?_⟩
  obtain ⟨b', f', e', -, hx'⟩ := (hF V hV).is (by omega)
  rw [e] at e'
  injection e' with e'
  injection e' with e1 e2
  subst e1 e2
  obtain ⟨p', h1', h2'⟩ := hx' i hi
  refine ⟨fun k hk => ?_⟩
  have c := h1'.c k hk
  rw [hV.cell hb hn, h1.c k hk] at c
  injection c with c
  injection c with c
  rw [c]
  exact h2'.o k hk
/-- A bundle is issued, and the cycle is over. -/
def cyB (t : Tab) (S : PM) (x : Bn) : PM × Option (Int × Int) := match bdM t S (restO x 4) with
  | (S2, none) => (stepM S2, none)
  | (S2, some z) => (S2, some z)
def CyP (W : World) (t : Tab) (bs : List Bn) (H : Hx) (R : PM × Option (Int × Int)) (e : Ending) (w' : World) : Prop :=
  (match R.2 with | none => e = .returned (.tuple #[]) | some z => e = .panicked [{ v := .iface 109 (.agg #[.int .i64 z.1, .int .i64 z.2]), recovered := false }]) ∧ ∃ H', Mch w' t bs H' R.1 ∧ Tn W H w' H'
theorem restO_at (x : Bn) (k : Nat) (hk : k < 4) : restO x (4 - k) = clsO x k ++ restO x (3 - k) := by
  obtain ⟨n, hn⟩ : ∃ n, n = 3 - k := ⟨_, rfl⟩
  rw [show 4 - k = n + 1 by omega, ← hn]
  show clsO x (3 - n) ++ restO x n = _
  rw [show 3 - n = k by omega]
theorem bdM_cons (t : Tab) (S : PM) (o : O) (k : Nat) (l : List (O × Nat)) : bdM t S ((o, k) :: l) = (match isE S o with | some z => (S, some z) | none => bdM t (isM t S o (S.s + (t.l k).toNat)) l) := rfl
/-- What a machine's bundles and table hold. -/
structure Bo (t : Tab) (bs : List Bn) : Prop where
  o : ∀ x ∈ bs, ∀ k, k < 4 → ∀ o ∈ x.l k, OkM o
  n : ∀ x ∈ bs, ∀ k, k < 4 → (x.l k).length ≤ 128
  d : 0 ≤ t.d ∧ t.d ≤ 1000
  l : ∀ k, k < 4 → 0 ≤ t.l k ∧ t.l k ≤ 1000
  b : bs.length ≤ 2199023255552
/-- A bundle under way. -/
structure Cw (W : World) (H : Hx) (w1 : World) (H1 : Hx) (t : Tab) (bs : List Bn) (S1 : PM) (x : Bn) (L : Nat) (wr : World) (rest : List (O × Nat)) : Prop where
  ex : ∃ H2 S2, Mch wr t bs H2 S2 ∧ Tn w1 H1 wr H2 ∧ bdM t S1 (restO x 4) = bdM t S2 rest ∧ S2.s = S1.s ∧ S2.a = S1.a ∧ S2.Ok L ∧ H2.mb = H.mb
set_option maxHeartbeats 8000000 in
theorem cycle_any {L : Nat} (h : Mch W t bs H S) (hS : S.Ok L) (hB : Bo t bs) (hs : S.s ≤ 100000000000) (hL : L ≤ 100000000) : Calls Tryd.prog 48 #[ptr H.mb] W fun e w' => CyP W t bs H (cyM t bs S) e w' := by
  have HL : Hid (Calls Tryd.prog 62 #[ptr H.mb] W fun e w' => e = .returned (.tuple #[]) ∧ ∃ H', Mch w' t bs H' (landM S) ∧ Tn W H w' H') := land_any h hS (by omega) (by omega)
  have hO := landM_ok hS
  have hls : (landM S).s = S.s := by
    unfold landM
    have : ∀ (l : List F) (T : PM), (l.foldl ld1 T).s = T.s := fun l => by
      induction l with
      | nil => exact fun _ => rfl
      | cons y l ih => exact fun T => (ih (ld1 T y)).trans (ld1_s T y).1
    exact this _ _
  have hs1 : (landM S).s ≤ 100000000000 := by rw [hls]; exact hs
  have HB : Hid (Bo t bs) := hB
  unfold cyM
  have hbl := hB.b
  clear h hS hs hls hB
  generalize landM S = S1 at *
  by_cases ha : 0 ≤ S1.a ∧ S1.a < (bs.length : Int)
  · rw [if_pos ha]
    obtain ⟨a0, a1⟩ := ha
    have hi : S1.a.toNat < bs.length := by omega
    rw [show bs.getD S1.a.toNat ⟨fun _ => []⟩ = bs[S1.a.toNat] by rw [List.getD_eq_getElem?_getD, List.getElem?_eq_getElem hi]; rfl]
    have hmem : bs[S1.a.toNat] ∈ bs := List.getElem_mem hi
    have HO : Hid (∀ k, k < 4 → ∀ o ∈ bs[S1.a.toNat].l k, OkM o) := HB.out.o _ hmem
    have hxn := HB.out.n _ hmem
    have HFx : Hid (∀ (w1 : World) (H1 : Hx), Mch w1 t bs H1 S1 → ∃ b f p, H1.ba = some ⟨b, f, none⟩ ∧ b < w1.heap.size ∧ NAt w1 b (f + S1.a.toNat * 4) bs[S1.a.toNat] p ∧ ∀ V, Fr (own H1) w1 V → BnIn V bs[S1.a.toNat] p) := fun w1 H1 hm => bs_fixed hm.bF hi
    clear hmem
    generalize bs[S1.a.toNat] = x at *
    show Calls Tryd.prog 48 #[ptr H.mb] W fun e w' => CyP W t bs H (cyB t S1 x) e w'
    have n1 : ¬ S1.a < 0 := by omega
    have n2 : ¬ (bs.length : Int) ≤ S1.a := by omega
    go_enter Tryd.func48, Tryd.ntmps48
    go_upto_region 1 with (first | (go_at_call 62; refine Calls.mono HL.out ?_; rintro e w1 ⟨rfl, H1, m1, t1⟩; have HM : Hid (Mch w1 t bs H1 S1 ∧ Tn W H w1 H1) := ⟨m1, t1⟩; have hq : H1.mb = H.mb := t1.q; clear m1 t1))
    obtain ⟨b, f, p, hba, hb1, hna, hbn⟩ := HFx.out w1 H1 HM.out.1
    have HBn : Hid _ := hbn
    have c0 := HM.out.1.c.b
    have c1 := HM.out.1.c.a
    have cl := HM.out.1.c.lt
    rw [hba] at c0
    rw [hq] at c0 c1 cl
    have q0 := hna.c 0 (by decide)
    have q1 := hna.c 1 (by decide)
    have q2 := hna.c 2 (by decide)
    have q3 := hna.c 3 (by decide)
    rw [Nat.add_zero] at q0
    have HQ : Hid (∀ V, Below w1.heap.size w1 V → H.mb < V.heap.size ∧ V.cell? ⟨H.mb, 302, none⟩ = some (.int .i64 S1.a) ∧ V.cell? ⟨H.mb, 0, none⟩ = some (.slice (some ⟨b, f, none⟩) bs.length H1.bc) ∧ b < V.heap.size ∧ V.cell? ⟨b, f + S1.a.toNat * 4, none⟩ = some (.slice (p.a 0) (x.l 0).length (p.c 0)) ∧ V.cell? ⟨b, f + S1.a.toNat * 4 + 1, none⟩ = some (.slice (p.a 1) (x.l 1).length (p.c 1)) ∧ V.cell? ⟨b, f + S1.a.toNat * 4 + 2, none⟩ = some (.slice (p.a 2) (x.l 2).length (p.c 2)) ∧ V.cell? ⟨b, f + S1.a.toNat * 4 + 3, none⟩ = some (.slice (p.a 3) (x.l 3).length (p.c 3))) := fun V hV => ⟨Nat.lt_of_lt_of_le cl hV.size, by rw [(bcell hV).1 _ _ cl]; exact c1, by rw [(bcell hV).1 _ _ cl]; exact c0, Nat.lt_of_lt_of_le hb1 hV.size, by rw [(bcell hV).1 _ _ hb1]; exact q0, by rw [(bcell hV).1 _ _ hb1]; exact q1, by rw [(bcell hV).1 _ _ hb1]; exact q2, by rw [(bcell hV).1 _ _ hb1]; exact q3⟩
    clear hbn hna q0 q1 q2 q3
    refine wp_region_held_drew (S := fun W' => H.mb < W'.heap.size ∧ W'.cell? ⟨H.mb, 302, none⟩ = some (.int .i64 S1.a) ∧ W'.cell? ⟨H.mb, 0, none⟩ = some (.slice (some ⟨b, f, none⟩) bs.length H1.bc)) (by kernel_rfl) ⟨cl, c1, c0⟩ (fun hHeld => ?_)
    refine wpAnyH_take (i := 0) (v := ptr H.mb) rfl (by kernel_rfl) (by kernel_rfl) (by kernel_rfl) (fun _ _ _ h => h) (Or.inl ⟨by rfl, fun w' hSw => by (go_simp)⟩) hHeld ?_
    simp only [Act.put, List.setIfInBounds_toArray, List.set_cons_zero, List.set_cons_succ, List.getElem_cons_zero, List.getElem_toArray]
    refine wpAnyH_take (i := 1) (v := ptr H.mb) rfl (by kernel_rfl) (by kernel_rfl) (by kernel_rfl) (fun _ _ _ h => h) (Or.inl ⟨by rfl, fun w' hSw => by (go_simp)⟩) hHeld ?_
    simp only [Act.put, List.setIfInBounds_toArray, List.set_cons_zero, List.set_cons_succ, List.getElem_cons_zero, List.getElem_cons_succ, List.getElem_toArray]
    refine wpAnyH_take (i := 2) (v := .pointer (some ⟨H.mb, 302, none⟩)) rfl (by kernel_rfl) (by kernel_rfl) (by kernel_rfl) (fun _ _ _ h => h) (Or.inl ⟨by rfl, fun w' hSw => by (go_simp)⟩) hHeld ?_
    simp only [Act.put, List.setIfInBounds_toArray, List.set_cons_zero, List.set_cons_succ, List.getElem_cons_zero, List.getElem_cons_succ, List.getElem_toArray]
    refine wpAnyH_take (i := 3) (v := .int .i64 S1.a) rfl (by kernel_rfl) (by kernel_rfl) (by kernel_rfl) (fun _ _ _ h => h) (Or.inl ⟨by rfl, fun w' hSw => by (have q := hSw.2.1; have ql := hSw.1; go_simp)⟩) hHeld ?_
    simp only [Act.put, List.setIfInBounds_toArray, List.set_cons_zero, List.set_cons_succ, List.getElem_cons_zero, List.getElem_cons_succ, List.getElem_toArray]
    refine wpAnyH_take (i := 4) (v := .bool false) rfl (by kernel_rfl) (by kernel_rfl) (by kernel_rfl) (fun _ _ _ h => h) (Or.inl ⟨by rfl, fun w' hSw => by (go_simp)⟩) hHeld ?_
    simp only [Act.put, List.setIfInBounds_toArray, List.set_cons_zero, List.set_cons_succ, List.getElem_cons_zero, List.getElem_cons_succ, List.getElem_toArray]
    refine wpAnyH_take (i := 5) (v := .bool false) rfl (by kernel_rfl) (by kernel_rfl) (by kernel_rfl) (fun _ _ _ h => h) (Or.inl ⟨by rfl, fun w' hSw => by (go_simp)⟩) hHeld ?_
    simp only [Act.put, List.setIfInBounds_toArray, List.set_cons_zero, List.set_cons_succ, List.getElem_cons_zero, List.getElem_cons_succ, List.getElem_toArray]
    refine wpAnyH_take (i := 6) (v := ptr H.mb) rfl (by kernel_rfl) (by kernel_rfl) (by kernel_rfl) (fun _ _ _ h => h) (Or.inl ⟨by rfl, fun w' hSw => by (go_simp)⟩) hHeld ?_
    simp only [Act.put, List.setIfInBounds_toArray, List.set_cons_zero, List.set_cons_succ, List.getElem_cons_zero, List.getElem_cons_succ, List.getElem_toArray]
    refine wpAnyH_take (i := 7) (v := ptr H.mb) rfl (by kernel_rfl) (by kernel_rfl) (by kernel_rfl) (fun _ _ _ h => h) (Or.inl ⟨by rfl, fun w' hSw => by (go_simp)⟩) hHeld ?_
    simp only [Act.put, List.setIfInBounds_toArray, List.set_cons_zero, List.set_cons_succ, List.getElem_cons_zero, List.getElem_cons_succ, List.getElem_toArray]
    refine wpAnyH_take (i := 8) (v := .pointer (some ⟨H.mb, 302, none⟩)) rfl (by kernel_rfl) (by kernel_rfl) (by kernel_rfl) (fun _ _ _ h => h) (Or.inl ⟨by rfl, fun w' hSw => by (go_simp)⟩) hHeld ?_
    simp only [Act.put, List.setIfInBounds_toArray, List.set_cons_zero, List.set_cons_succ, List.getElem_cons_zero, List.getElem_cons_succ, List.getElem_toArray]
    refine wpAnyH_take (i := 9) (v := .int .i64 S1.a) rfl (by kernel_rfl) (by kernel_rfl) (by kernel_rfl) (fun _ _ _ h => h) (Or.inl ⟨by rfl, fun w' hSw => by (have q := hSw.2.1; have ql := hSw.1; go_simp)⟩) hHeld ?_
    simp only [Act.put, List.setIfInBounds_toArray, List.set_cons_zero, List.set_cons_succ, List.getElem_cons_zero, List.getElem_cons_succ, List.getElem_toArray]
    refine wpAnyH_take (i := 10) (v := ptr H.mb) rfl (by kernel_rfl) (by kernel_rfl) (by kernel_rfl) (fun _ _ _ h => h) (Or.inl ⟨by rfl, fun w' hSw => by (go_simp)⟩) hHeld ?_
    simp only [Act.put, List.setIfInBounds_toArray, List.set_cons_zero, List.set_cons_succ, List.getElem_cons_zero, List.getElem_cons_succ, List.getElem_toArray]
    refine wpAnyH_take (i := 11) (v := ptr H.mb) rfl (by kernel_rfl) (by kernel_rfl) (by kernel_rfl) (fun _ _ _ h => h) (Or.inl ⟨by rfl, fun w' hSw => by (go_simp)⟩) hHeld ?_
    simp only [Act.put, List.setIfInBounds_toArray, List.set_cons_zero, List.set_cons_succ, List.getElem_cons_zero, List.getElem_cons_succ, List.getElem_toArray]
    refine wpAnyH_take (i := 12) (v := .pointer (some ⟨H.mb, 0, none⟩)) rfl (by kernel_rfl) (by kernel_rfl) (by kernel_rfl) (fun _ _ _ h => h) (Or.inl ⟨by rfl, fun w' hSw => by (go_simp)⟩) hHeld ?_
    simp only [Act.put, List.setIfInBounds_toArray, List.set_cons_zero, List.set_cons_succ, List.getElem_cons_zero, List.getElem_cons_succ, List.getElem_toArray]
    refine wpAnyH_take (i := 13) (v := .slice (some ⟨b, f, none⟩) bs.length H1.bc) rfl (by kernel_rfl) (by kernel_rfl) (by kernel_rfl) (fun _ _ _ h => h) (Or.inl ⟨by rfl, fun w' hSw => by (have q := hSw.2.2; have ql := hSw.1; go_simp)⟩) hHeld ?_
    simp only [Act.put, List.setIfInBounds_toArray, List.set_cons_zero, List.set_cons_succ, List.getElem_cons_zero, List.getElem_cons_succ, List.getElem_toArray]
    refine wpAnyH_take (i := 14) (v := .int .i64 (bs.length : Int)) rfl (by kernel_rfl) (by kernel_rfl) (by kernel_rfl) (fun _ _ _ h => h) (Or.inl ⟨by rfl, fun w' hSw => by (go_simp)⟩) hHeld ?_
    simp only [Act.put, List.setIfInBounds_toArray, List.set_cons_zero, List.set_cons_succ, List.getElem_cons_zero, List.getElem_cons_succ, List.getElem_toArray]
    refine wpAnyH_take (i := 15) (v := .bool false) rfl (by kernel_rfl) (by kernel_rfl) (by kernel_rfl) (fun _ _ _ h => h) (Or.inl ⟨by rfl, fun w' hSw => by (go_simp)⟩) hHeld ?_
    simp only [Act.put, List.setIfInBounds_toArray, List.set_cons_zero, List.set_cons_succ, List.getElem_cons_zero, List.getElem_cons_succ, List.getElem_toArray]
    refine wpAnyH_take (i := 16) (v := .bool false) rfl (by kernel_rfl) (by kernel_rfl) (by kernel_rfl) (fun _ _ _ h => h) (Or.inl ⟨by rfl, fun w' hSw => by (go_simp)⟩) hHeld ?_
    simp only [Act.put, List.setIfInBounds_toArray, List.set_cons_zero, List.set_cons_succ, List.getElem_cons_zero, List.getElem_cons_succ, List.getElem_toArray]
    refine wpAnyH_done (by kernel_rfl) ?_ _
    clear hHeld
    go_upto_region 3 with fail
    clear c0 c1 cl hb1
    refine wp_region_held_drew (S := fun W' => H.mb < W'.heap.size ∧ W'.cell? ⟨H.mb, 302, none⟩ = some (.int .i64 S1.a) ∧ W'.cell? ⟨H.mb, 0, none⟩ = some (.slice (some ⟨b, f, none⟩) bs.length H1.bc) ∧ b < W'.heap.size ∧ W'.cell? ⟨b, f + S1.a.toNat * 4, none⟩ = some (.slice (p.a 0) (x.l 0).length (p.c 0)) ∧ W'.cell? ⟨b, f + S1.a.toNat * 4 + 1, none⟩ = some (.slice (p.a 1) (x.l 1).length (p.c 1)) ∧ W'.cell? ⟨b, f + S1.a.toNat * 4 + 2, none⟩ = some (.slice (p.a 2) (x.l 2).length (p.c 2)) ∧ W'.cell? ⟨b, f + S1.a.toNat * 4 + 3, none⟩ = some (.slice (p.a 3) (x.l 3).length (p.c 3))) (by kernel_rfl) (HQ.out _ (drew_two w1)) (fun hHeld => ?_)
    refine wpAnyH_take (i := 0) (v := ptr H.mb) rfl (by kernel_rfl) (by kernel_rfl) (by kernel_rfl) (fun _ _ _ h => h) (Or.inl ⟨by rfl, fun w' hSw => by (go_simp)⟩) hHeld ?_
    simp only [Act.put, List.setIfInBounds_toArray, List.set_cons_zero, List.set_cons_succ, List.getElem_cons_zero, List.getElem_toArray]
    refine wpAnyH_take (i := 1) (v := ptr H.mb) rfl (by kernel_rfl) (by kernel_rfl) (by kernel_rfl) (fun _ _ _ h => h) (Or.inl ⟨by rfl, fun w' hSw => by (go_simp)⟩) hHeld ?_
    simp only [Act.put, List.setIfInBounds_toArray, List.set_cons_zero, List.set_cons_succ, List.getElem_cons_zero, List.getElem_cons_succ, List.getElem_toArray]
    refine wpAnyH_take (i := 2) (v := .pointer (some ⟨H.mb, 0, none⟩)) rfl (by kernel_rfl) (by kernel_rfl) (by kernel_rfl) (fun _ _ _ h => h) (Or.inl ⟨by rfl, fun w' hSw => by (go_simp)⟩) hHeld ?_
    simp only [Act.put, List.setIfInBounds_toArray, List.set_cons_zero, List.set_cons_succ, List.getElem_cons_zero, List.getElem_cons_succ, List.getElem_toArray]
    refine wpAnyH_take (i := 3) (v := .slice (some ⟨b, f, none⟩) bs.length H1.bc) rfl (by kernel_rfl) (by kernel_rfl) (by kernel_rfl) (fun _ _ _ h => h) (Or.inl ⟨by rfl, fun w' hSw => by (have q := hSw.2.2.1; have ql := hSw.1; go_simp)⟩) hHeld ?_
    simp only [Act.put, List.setIfInBounds_toArray, List.set_cons_zero, List.set_cons_succ, List.getElem_cons_zero, List.getElem_cons_succ, List.getElem_toArray]
    refine wpAnyH_take (i := 4) (v := ptr H.mb) rfl (by kernel_rfl) (by kernel_rfl) (by kernel_rfl) (fun _ _ _ h => h) (Or.inl ⟨by rfl, fun w' hSw => by (go_simp)⟩) hHeld ?_
    simp only [Act.put, List.setIfInBounds_toArray, List.set_cons_zero, List.set_cons_succ, List.getElem_cons_zero, List.getElem_cons_succ, List.getElem_toArray]
    refine wpAnyH_take (i := 5) (v := ptr H.mb) rfl (by kernel_rfl) (by kernel_rfl) (by kernel_rfl) (fun _ _ _ h => h) (Or.inl ⟨by rfl, fun w' hSw => by (go_simp)⟩) hHeld ?_
    simp only [Act.put, List.setIfInBounds_toArray, List.set_cons_zero, List.set_cons_succ, List.getElem_cons_zero, List.getElem_cons_succ, List.getElem_toArray]
    refine wpAnyH_take (i := 6) (v := .pointer (some ⟨H.mb, 302, none⟩)) rfl (by kernel_rfl) (by kernel_rfl) (by kernel_rfl) (fun _ _ _ h => h) (Or.inl ⟨by rfl, fun w' hSw => by (go_simp)⟩) hHeld ?_
    simp only [Act.put, List.setIfInBounds_toArray, List.set_cons_zero, List.set_cons_succ, List.getElem_cons_zero, List.getElem_cons_succ, List.getElem_toArray]
    refine wpAnyH_take (i := 7) (v := .int .i64 S1.a) rfl (by kernel_rfl) (by kernel_rfl) (by kernel_rfl) (fun _ _ _ h => h) (Or.inl ⟨by rfl, fun w' hSw => by (have q := hSw.2.1; have ql := hSw.1; go_simp)⟩) hHeld ?_
    simp only [Act.put, List.setIfInBounds_toArray, List.set_cons_zero, List.set_cons_succ, List.getElem_cons_zero, List.getElem_cons_succ, List.getElem_toArray]
    refine wpAnyH_take (i := 8) (v := .pointer (some ⟨b, f + S1.a.toNat * 4, none⟩)) rfl (by kernel_rfl) (by kernel_rfl) (by kernel_rfl) (fun _ _ _ h => h) (Or.inl ⟨by rfl, fun w' hSw => by (go_simp)⟩) hHeld ?_
    simp only [Act.put, List.setIfInBounds_toArray, List.set_cons_zero, List.set_cons_succ, List.getElem_cons_zero, List.getElem_cons_succ, List.getElem_toArray]
    refine wpAnyH_take (i := 9) (v := .pointer (some ⟨b, f + S1.a.toNat * 4, none⟩)) rfl (by kernel_rfl) (by kernel_rfl) (by kernel_rfl) (fun _ _ _ h => h) (Or.inl ⟨by rfl, fun w' hSw => by (go_simp)⟩) hHeld ?_
    simp only [Act.put, List.setIfInBounds_toArray, List.set_cons_zero, List.set_cons_succ, List.getElem_cons_zero, List.getElem_cons_succ, List.getElem_toArray]
    refine wpAnyH_take (i := 10) (v := .agg #[.slice (p.a 0) (x.l 0).length (p.c 0), .slice (p.a 1) (x.l 1).length (p.c 1), .slice (p.a 2) (x.l 2).length (p.c 2), .slice (p.a 3) (x.l 3).length (p.c 3)]) rfl (by kernel_rfl) (by kernel_rfl) (by kernel_rfl) (fun _ _ _ h => h) (Or.inl ⟨by rfl, fun w' hSw => by (have ql := hSw.2.2.2.1; have y0 := hSw.2.2.2.2.1; have y1 := hSw.2.2.2.2.2.1; have y2 := hSw.2.2.2.2.2.2.1; have y3 := hSw.2.2.2.2.2.2.2; go_simp)⟩) hHeld ?_
    simp only [Act.put, List.setIfInBounds_toArray, List.set_cons_zero, List.set_cons_succ, List.getElem_cons_zero, List.getElem_cons_succ, List.getElem_toArray]
    refine wpAnyH_take (i := 11) (v := .int .i64 0) rfl (by kernel_rfl) (by kernel_rfl) (by kernel_rfl) (fun _ _ _ h => h) (Or.inl ⟨by rfl, fun w' hSw => by (go_simp)⟩) hHeld ?_
    simp only [Act.put, List.setIfInBounds_toArray, List.set_cons_zero, List.set_cons_succ, List.getElem_cons_zero, List.getElem_cons_succ, List.getElem_toArray]
    refine wpAnyH_done (by kernel_rfl) ?_ _
    clear hHeld
    have HI : Hid (∀ k : Nat, k < 4 → ∀ w, (Instr.index 61 (.agg #[.slice (p.a 0) (x.l 0).length (p.c 0), .slice (p.a 1) (x.l 1).length (p.c 1), .slice (p.a 2) (x.l 2).length (p.c 2), .slice (p.a 3) (x.l 3).length (p.c 3)]) (.int .i64 k)).run Tryd.prog w = .ok (.slice (p.a k) (x.l k).length (p.c k)) w) := fun k hk w => by
      match k, hk with
      | 0, _ => rfl
      | 1, _ => rfl
      | 2, _ => rfl
      | 3, _ => rfl
    have HC0 : Hid (Cw W H w1 H1 t bs S1 x L w1.drew.drew (restO x 4)) := ⟨H1, S1, HM.out.1.up (drew_two w1), Tn.of (drew_two w1), rfl, rfl, rfl, hO, hq⟩
    generalize w1.drew.drew = Z at *
    clear HQ HFx
    go_wp2_with fail
    go_loopw [40] (fun v wr => ∃ k : Nat, k ≤ 4 ∧ v = .int .i64 k ∧ Hid (Cw W H w1 H1 t bs S1 x (L + 128 * k) wr (restO x (4 - k)))) (fun v _ => 4 - (intOf v).toNat)
    case atStart => exact ⟨0, by omega, rfl, HC0⟩
    case round =>
      rename World => wr
      clear HC0
      obtain ⟨k, hk, rfl, HC⟩ := hrel
      by_cases hlt : k < 4
      · have k0 : (0 : Int) ≤ (k : Int) := by omega
        have k1 : (k : Int) < 4 := by omega
        have hidx := HI.out k hlt
        have hlk := HB.out.l k hlt
        obtain ⟨lk0, lk1⟩ := hlk
        have hln := hxn k hlt
        obtain ⟨H2, S2, m2, t2, r2, s2, v2, o2, b2⟩ := HC.out.ex
        have HK : Hid (∀ V, Below wr.heap.size wr V → H.mb < V.heap.size ∧ V.cell? ⟨H.mb, 315, none⟩ = some (.int .i64 (S1.s : Int)) ∧ V.cell? ⟨H.mb, 5 + k, none⟩ = some (.int .i64 (t.l k))) := fun V hV => by
          have hm := (m2.up hV).c
          have e1 := hm.s
          have e2 := hm.tl k hlt
          have e3 := hm.lt
          rw [b2] at e1 e2 e3
          rw [s2] at e1
          exact ⟨e3, e1, e2⟩
        have hs1' : (S1.s : Int) ≤ 100000000000 := by omega
        have HCd : Hid (Cw W H w1 H1 t bs S1 x (L + 128 * k + 0) wr.drew (((x.l k).drop 0).map (fun o => (o, k)) ++ restO x (3 - k))) := ⟨H2, S2, m2.up (drew_up _), t2.up (drew_up _), by rw [r2, restO_at x k hlt]; rfl, s2, v2, o2.mono (by omega), b2⟩
        clear m2 t2 r2 s2 v2 o2 b2 HC
        go_upto_region 6 with fail
        refine wp_region_held_drew (S := fun W' => H.mb < W'.heap.size ∧ W'.cell? ⟨H.mb, 315, none⟩ = some (.int .i64 (S1.s : Int)) ∧ W'.cell? ⟨H.mb, 5 + k, none⟩ = some (.int .i64 (t.l k))) (by kernel_rfl) (HK.out _ (drew_up _)) (fun hHeld => ?_)
        refine wpAnyH_take (i := 0) (v := ptr H.mb) rfl (by kernel_rfl) (by kernel_rfl) (by kernel_rfl) (fun _ _ _ h => h) (Or.inl ⟨by rfl, fun w' hSw => by (go_simp)⟩) hHeld ?_
        simp only [Act.put, List.setIfInBounds_toArray, List.set_cons_zero, List.set_cons_succ, List.getElem_cons_zero, List.getElem_toArray]
        refine wpAnyH_take (i := 1) (v := ptr H.mb) rfl (by kernel_rfl) (by kernel_rfl) (by kernel_rfl) (fun _ _ _ h => h) (Or.inl ⟨by rfl, fun w' hSw => by (go_simp)⟩) hHeld ?_
        simp only [Act.put, List.setIfInBounds_toArray, List.set_cons_zero, List.set_cons_succ, List.getElem_cons_zero, List.getElem_cons_succ, List.getElem_toArray]
        refine wpAnyH_take (i := 2) (v := .pointer (some ⟨H.mb, 315, none⟩)) rfl (by kernel_rfl) (by kernel_rfl) (by kernel_rfl) (fun _ _ _ h => h) (Or.inl ⟨by rfl, fun w' hSw => by (go_simp)⟩) hHeld ?_
        simp only [Act.put, List.setIfInBounds_toArray, List.set_cons_zero, List.set_cons_succ, List.getElem_cons_zero, List.getElem_cons_succ, List.getElem_toArray]
        refine wpAnyH_take (i := 3) (v := .int .i64 (S1.s : Int)) rfl (by kernel_rfl) (by kernel_rfl) (by kernel_rfl) (fun _ _ _ h => h) (Or.inl ⟨by rfl, fun w' hSw => by (have q := hSw.2.1; have ql := hSw.1; go_simp)⟩) hHeld ?_
        simp only [Act.put, List.setIfInBounds_toArray, List.set_cons_zero, List.set_cons_succ, List.getElem_cons_zero, List.getElem_cons_succ, List.getElem_toArray]
        refine wpAnyH_take (i := 4) (v := ptr H.mb) rfl (by kernel_rfl) (by kernel_rfl) (by kernel_rfl) (fun _ _ _ h => h) (Or.inl ⟨by rfl, fun w' hSw => by (go_simp)⟩) hHeld ?_
        simp only [Act.put, List.setIfInBounds_toArray, List.set_cons_zero, List.set_cons_succ, List.getElem_cons_zero, List.getElem_cons_succ, List.getElem_toArray]
        refine wpAnyH_take (i := 5) (v := .int .i64 (k : Int)) rfl (by kernel_rfl) (by kernel_rfl) (by kernel_rfl) (fun _ _ _ h => h) (Or.inl ⟨by rfl, fun w' hSw => by (go_simp)⟩) hHeld ?_
        simp only [Act.put, List.setIfInBounds_toArray, List.set_cons_zero, List.set_cons_succ, List.getElem_cons_zero, List.getElem_cons_succ, List.getElem_toArray]
        refine wpAnyH_take (i := 6) (v := ptr H.mb) rfl (by kernel_rfl) (by kernel_rfl) (by kernel_rfl) (fun _ _ _ h => h) (Or.inl ⟨by rfl, fun w' hSw => by (go_simp)⟩) hHeld ?_
        simp only [Act.put, List.setIfInBounds_toArray, List.set_cons_zero, List.set_cons_succ, List.getElem_cons_zero, List.getElem_cons_succ, List.getElem_toArray]
        refine wpAnyH_take (i := 7) (v := .pointer (some ⟨H.mb, 1, none⟩)) rfl (by kernel_rfl) (by kernel_rfl) (by kernel_rfl) (fun _ _ _ h => h) (Or.inl ⟨by rfl, fun w' hSw => by (go_simp)⟩) hHeld ?_
        simp only [Act.put, List.setIfInBounds_toArray, List.set_cons_zero, List.set_cons_succ, List.getElem_cons_zero, List.getElem_cons_succ, List.getElem_toArray]
        refine wpAnyH_take (i := 8) (v := .pointer (some ⟨H.mb, 5, none⟩)) rfl (by kernel_rfl) (by kernel_rfl) (by kernel_rfl) (fun _ _ _ h => h) (Or.inl ⟨by rfl, fun w' hSw => by (go_simp)⟩) hHeld ?_
        simp only [Act.put, List.setIfInBounds_toArray, List.set_cons_zero, List.set_cons_succ, List.getElem_cons_zero, List.getElem_cons_succ, List.getElem_toArray]
        refine wpAnyH_take (i := 9) (v := .pointer (some ⟨H.mb, 5 + k, none⟩)) rfl (by kernel_rfl) (by kernel_rfl) (by kernel_rfl) (fun _ _ _ h => h) (Or.inl ⟨by rfl, fun w' hSw => by (go_simp)⟩) hHeld ?_
        simp only [Act.put, List.setIfInBounds_toArray, List.set_cons_zero, List.set_cons_succ, List.getElem_cons_zero, List.getElem_cons_succ, List.getElem_toArray]
        refine wpAnyH_take (i := 10) (v := .int .i64 (t.l k)) rfl (by kernel_rfl) (by kernel_rfl) (by kernel_rfl) (fun _ _ _ h => h) (Or.inl ⟨by rfl, fun w' hSw => by (have q := hSw.2.2; have ql := hSw.1; go_simp)⟩) hHeld ?_
        simp only [Act.put, List.setIfInBounds_toArray, List.set_cons_zero, List.set_cons_succ, List.getElem_cons_zero, List.getElem_cons_succ, List.getElem_toArray]
        refine wpAnyH_take (i := 11) (v := .int .i64 ((S1.s : Int) + t.l k)) rfl (by kernel_rfl) (by kernel_rfl) (by kernel_rfl) (fun _ _ _ h => h) (Or.inl ⟨by rfl, fun w' hSw => by (go_simp; rw [IntKind.wrap_i64]; omega)⟩) hHeld ?_
        simp only [Act.put, List.setIfInBounds_toArray, List.set_cons_zero, List.set_cons_succ, List.getElem_cons_zero, List.getElem_cons_succ, List.getElem_toArray]
        refine wpAnyH_take (i := 12) (v := .int .i64 ((S1.s : Int) + t.l k)) rfl (by kernel_rfl) (by kernel_rfl) (by kernel_rfl) (fun _ _ _ h => h) (Or.inl ⟨by rfl, fun w' hSw => by (go_simp)⟩) hHeld ?_
        simp only [Act.put, List.setIfInBounds_toArray, List.set_cons_zero, List.set_cons_succ, List.getElem_cons_zero, List.getElem_cons_succ, List.getElem_toArray]
        refine wpAnyH_done (by kernel_rfl) ?_ _
        clear hHeld
        generalize wr.drew = Y at *
        clear HK hidx
        go_wp2_with fail
        go_loopw [58] (fun v wz => ∃ j : Nat, j ≤ (x.l k).length ∧ v = .int .i64 j ∧ Hid (Cw W H w1 H1 t bs S1 x (L + 128 * k + j) wz (((x.l k).drop j).map (fun o => (o, k)) ++ restO x (3 - k)))) (fun v _ => (x.l k).length - (intOf v).toNat)
        case atStart => exact ⟨0, by omega, rfl, HCd⟩
        case round =>
          rename World => wz
          clear HCd
          obtain ⟨j, hj, rfl, HC⟩ := hrel
          by_cases hjl : j < (x.l k).length
          · have j0 : (0 : Int) ≤ (j : Int) := by omega
            have j1 : (j : Int) < ((x.l k).length : Int) := by omega
            obtain ⟨H2, S2, m2, t2, r2, s2, v2, o2, b2⟩ := HC.out.ex
            obtain ⟨ob, of', eo, hob, hox⟩ := ((HBn.out wz t2.f).o k hlt).is (by omega)
            obtain ⟨g0, g1, g2, g3, g4⟩ := hox j hjl
            have hok := HO.out k hlt _ (List.getElem_mem hjl)
            have hdr : (x.l k).drop j = (x.l k)[j] :: (x.l k).drop (j + 1) := List.drop_eq_getElem_cons hjl
            rw [hdr, List.map_cons, List.cons_append, bdM_cons] at r2
            rw [s2] at r2
            have hS2s : S2.s ≤ 1000000000000 := by rw [s2]; omega
            clear hdr HC hox
            generalize (x.l k)[j] = o at *
            have g00 : Below wz.heap.size wz (wz.alloc (.cells o.cells 55)) := (Below.refl _ _).alloc (Nat.le_refl _) _
            have hcast : (S1.s : Int) + t.l k = ((S1.s + (t.l k).toNat : Nat) : Int) := by omega
            rw [eo]
            cases hE : isE S2 o with
            | none =>
              rw [hE] at r2
              have HIs : Hid (Calls Tryd.prog 63 #[ptr H.mb, o.val, .int .i64 ((S1.s : Int) + t.l k)] (wz.alloc (.cells o.cells 55)) fun e w' => IsP (wz.alloc (.cells o.cells 55)) t bs H2 (isM t S2 o (S1.s + (t.l k).toNat)) e w') := by
                have := issue_go o (S1.s + (t.l k).toNat) _ (m2.up g00) o2 hok hE hS2s HB.out.d (by omega)
                rw [b2, ← hcast] at this
                exact this
              have HNx : Hid (∀ w', (∃ H', Mch w' t bs H' (isM t S2 o (S1.s + (t.l k).toNat)) ∧ Tn (wz.alloc (.cells o.cells 55)) H2 w' H') → Cw W H w1 H1 t bs S1 x (L + 128 * k + (j + 1)) w' (((x.l k).drop (j + 1)).map (fun o => (o, k)) ++ restO x (3 - k))) := fun w' ⟨H', m, tn⟩ => ⟨H', _, m, (t2.up g00).trans tn, r2, (isM_s t o _).1.trans s2, (isM_s t o _).2.1.trans v2, isM_ok t _ o2 hok.ok hok.k, tn.q.trans b2⟩
              clear r2 m2 t2 o2 hE hok hS2s hcast s2 v2 b2 eo
              go_wp2_with (first | (go_at_call 63; refine Calls.mono HIs.out ?_; rintro e w3 ⟨rfl, h3⟩; have HC3 : Hid _ := HNx.out w3 h3; clear h3))
              go_roundw
              case rel => exact ⟨j + 1, by omega, by go_num, HC3⟩
              case measure => simp [intOf]; omega
            | some z =>
              rw [hE] at r2
              have HIs : Hid (Calls Tryd.prog 63 #[ptr H.mb, o.val, .int .i64 ((S1.s : Int) + t.l k)] (wz.alloc (.cells o.cells 55)) fun e w' => e = .panicked [{ v := .iface 109 (.agg #[.int .i64 z.1, .int .i64 z.2]), recovered := false }] ∧ Below (wz.alloc (.cells o.cells 55)).heap.size (wz.alloc (.cells o.cells 55)) w') := by
                have := issue_end o (S1.s + (t.l k).toNat) _ (m2.up g00) o2 hok z hE
                rw [b2, ← hcast] at this
                exact this
              have HNx : Hid (∀ w', Below (wz.alloc (.cells o.cells 55)).heap.size (wz.alloc (.cells o.cells 55)) w' → CyP W t bs H (cyB t S1 x) (.panicked [{ v := .iface 109 (.agg #[.int .i64 z.1, .int .i64 z.2]), recovered := false }]) w') := fun w' hw => by
                have e : cyB t S1 x = (S2, some z) := by unfold cyB; rw [r2]
                rw [e]
                exact ⟨rfl, H2, (m2.up g00).up hw, (HM.out.2.trans (t2.up g00)).up hw⟩
              clear r2 m2 t2 o2 hE hok hS2s hcast s2 v2 b2 eo
              go_wp2_with (first | (go_at_call 63; refine Calls.mono HIs.out ?_; rintro e w3 ⟨rfl, h3⟩; have HC3 : Hid _ := HNx.out w3 h3; clear h3))
              exact ⟨rfl, HC3.out⟩
          · obtain rfl : j = (x.l k).length := by omega
            have j1 : ¬ ((x.l k).length : Int) < ((x.l k).length : Int) := by omega
            have HC3 : Hid (Cw W H w1 H1 t bs S1 x (L + 128 * (k + 1)) wz (restO x (4 - (k + 1)))) := by
              obtain ⟨H2, S2, m2, t2, r2, s2, v2, o2, b2⟩ := HC.out.ex
              refine ⟨H2, S2, m2, t2, ?_, s2, v2, o2.mono (by omega), b2⟩
              rw [r2, List.drop_length, show 4 - (k + 1) = 3 - k by omega]
              rfl
            go_wp2_with fail
            go_roundw
            case rel => exact ⟨k + 1, by omega, by go_num, HC3⟩
            case measure => simp [intOf]; omega
      · obtain rfl : k = 4 := by omega
        obtain ⟨H2, S2, m2, t2, r2, s2, v2, o2, b2⟩ := HC.out.ex
        have r3 : bdM t S1 (restO x 4) = (S2, none) := r2
        have HP : Hid (∀ V e, (e = .returned (.tuple #[]) ∧ ∃ H', Mch V t bs H' (stepM S2) ∧ Tn W H V H') → CyP W t bs H (cyB t S1 x) e V) := fun V e hV => by
          have e2 : cyB t S1 x = (stepM S2, none) := by unfold cyB; rw [r3]
          rw [e2]
          exact hV
        have e1 := m2.c.a
        have e2 := m2.c.s
        have e3 := m2.c.lt
        have e4 := m2.c.fz
        rw [b2] at e1 e2 e3 e4
        have a2 : S2.a = S1.a := v2
        rw [a2] at e1
        rw [s2] at e2
        have HF : Hid (Mch ((wr.setCell ⟨H.mb, 302, none⟩ (.int .i64 (S1.a + 1))).setCell ⟨H.mb, 315, none⟩ (.int .i64 ((S1.s : Int) + 1))) t bs H2 (stepM S2) ∧ Tn W H ((wr.setCell ⟨H.mb, 302, none⟩ (.int .i64 (S1.a + 1))).setCell ⟨H.mb, 315, none⟩ (.int .i64 ((S1.s : Int) + 1))) H2) := by
          have f1 := m2.one (m2.c.setA (S2.a + 1)) ((Fr.refl (One H2.mb) _).setCell (.inr rfl) _ _) rfl rfl
          have f2 := f1.1.one (f1.1.c.setS (S2.s + 1)) ((Fr.refl (One H2.mb) _).setCell (.inr rfl) _ _) rfl rfl
          have tn := (HM.out.2.trans t2).trans (f1.2.trans f2.2)
          have hm := f2.1
          rw [b2, a2, s2, show ((S1.s + 1 : Nat) : Int) = (S1.s : Int) + 1 by omega] at hm tn
          refine ⟨?_, tn⟩
          have e : stepM S2 = { { S2 with a := S1.a + 1 } with s := S1.s + 1 } := by unfold stepM; rw [a2, s2]
          rw [e]
          exact hm
        have hs1' : (S1.s : Int) ≤ 100000000000 := by omega
        have k4 : ¬ ((4 : Nat) : Int) < 4 := by omega
        clear m2 t2 r2 r3 s2 v2 o2 b2 a2 HC
        go_wp2_with fail
        go_end0
        exact HP.out _ _ ⟨rfl, H2, HF.out.1, HF.out.2⟩
  · rw [if_neg ha]
    by_cases hn : S1.a < 0
    · go_enter Tryd.func48, Tryd.ntmps48
      go_upto_region 1 with (first | (go_at_call 62; refine Calls.mono HL.out ?_; rintro e w1 ⟨rfl, H1, m1, t1⟩; have HM : Hid (Mch w1 t bs H1 S1 ∧ Tn W H w1 H1) := ⟨m1, t1⟩; have hq : H1.mb = H.mb := t1.q; clear m1 t1))
      have c0 := HM.out.1.c.b
      have c1 := HM.out.1.c.a
      have cl := HM.out.1.c.lt
      have ce := HM.out.1.c.e
      have cz := HM.out.1.c.fz
      rw [hq] at c0 c1 cl ce cz
      have HE : Hid (∃ H', Mch (w1.drew.setCell ⟨H.mb, 312, none⟩ (.int .i64 5)) t bs H' { S1 with e := 5 } ∧ Tn W H (w1.drew.setCell ⟨H.mb, 312, none⟩ (.int .i64 5)) H') := by
        have f0 := HM.out.1.up (drew_up w1)
        have f1 := f0.one (f0.c.setE 5) ((Fr.refl (One H1.mb) _).setCell (.inr rfl) _ _) rfl rfl
        rw [hq] at f1
        exact ⟨H1, f1.1, (HM.out.2.up (drew_up w1)).trans f1.2⟩
      refine wp_region_held_drew (S := fun W' => H.mb < W'.heap.size ∧ W'.cell? ⟨H.mb, 302, none⟩ = some (.int .i64 S1.a) ∧ W'.cell? ⟨H.mb, 0, none⟩ = some (.slice H1.ba bs.length H1.bc)) (by kernel_rfl) ⟨cl, c1, c0⟩ (fun hHeld => ?_)
      refine wpAnyH_take (i := 0) (v := ptr H.mb) rfl (by kernel_rfl) (by kernel_rfl) (by kernel_rfl) (fun _ _ _ h => h) (Or.inl ⟨by rfl, fun w' hSw => by (go_simp)⟩) hHeld ?_
      simp only [Act.put, List.setIfInBounds_toArray, List.set_cons_zero, List.set_cons_succ, List.getElem_cons_zero, List.getElem_toArray]
      refine wpAnyH_take (i := 1) (v := ptr H.mb) rfl (by kernel_rfl) (by kernel_rfl) (by kernel_rfl) (fun _ _ _ h => h) (Or.inl ⟨by rfl, fun w' hSw => by (go_simp)⟩) hHeld ?_
      simp only [Act.put, List.setIfInBounds_toArray, List.set_cons_zero, List.set_cons_succ, List.getElem_cons_zero, List.getElem_cons_succ, List.getElem_toArray]
      refine wpAnyH_take (i := 2) (v := .pointer (some ⟨H.mb, 302, none⟩)) rfl (by kernel_rfl) (by kernel_rfl) (by kernel_rfl) (fun _ _ _ h => h) (Or.inl ⟨by rfl, fun w' hSw => by (go_simp)⟩) hHeld ?_
      simp only [Act.put, List.setIfInBounds_toArray, List.set_cons_zero, List.set_cons_succ, List.getElem_cons_zero, List.getElem_cons_succ, List.getElem_toArray]
      refine wpAnyH_take (i := 3) (v := .int .i64 S1.a) rfl (by kernel_rfl) (by kernel_rfl) (by kernel_rfl) (fun _ _ _ h => h) (Or.inl ⟨by rfl, fun w' hSw => by (have q := hSw.2.1; have ql := hSw.1; go_simp)⟩) hHeld ?_
      simp only [Act.put, List.setIfInBounds_toArray, List.set_cons_zero, List.set_cons_succ, List.getElem_cons_zero, List.getElem_cons_succ, List.getElem_toArray]
      refine wpAnyH_take (i := 4) (v := .bool true) rfl (by kernel_rfl) (by kernel_rfl) (by kernel_rfl) (fun _ _ _ h => h) (Or.inl ⟨by rfl, fun w' hSw => by (go_simp)⟩) hHeld ?_
      simp only [Act.put, List.setIfInBounds_toArray, List.set_cons_zero, List.set_cons_succ, List.getElem_cons_zero, List.getElem_cons_succ, List.getElem_toArray]
      refine wpAnyH_take (i := 5) (v := .bool true) rfl (by kernel_rfl) (by kernel_rfl) (by kernel_rfl) (fun _ _ _ h => h) (Or.inl ⟨by rfl, fun w' hSw => by (go_simp)⟩) hHeld ?_
      simp only [Act.put, List.setIfInBounds_toArray, List.set_cons_zero, List.set_cons_succ, List.getElem_cons_zero, List.getElem_cons_succ, List.getElem_toArray]
      refine wpAnyH_take (i := 6) (v := undef) rfl (by kernel_rfl) (by kernel_rfl) (by kernel_rfl) (fun _ _ _ h => h) (Or.inr ⟨by rfl, rfl⟩) hHeld ?_
      simp only [Act.put, List.setIfInBounds_toArray, List.set_cons_zero, List.set_cons_succ, List.getElem_cons_zero, List.getElem_cons_succ, List.getElem_toArray]
      refine wpAnyH_take (i := 7) (v := undef) rfl (by kernel_rfl) (by kernel_rfl) (by kernel_rfl) (fun _ _ _ h => h) (Or.inr ⟨by rfl, rfl⟩) hHeld ?_
      simp only [Act.put, List.setIfInBounds_toArray, List.set_cons_zero, List.set_cons_succ, List.getElem_cons_zero, List.getElem_cons_succ, List.getElem_toArray]
      refine wpAnyH_take (i := 8) (v := undef) rfl (by kernel_rfl) (by kernel_rfl) (by kernel_rfl) (fun _ _ _ h => h) (Or.inr ⟨by rfl, rfl⟩) hHeld ?_
      simp only [Act.put, List.setIfInBounds_toArray, List.set_cons_zero, List.set_cons_succ, List.getElem_cons_zero, List.getElem_cons_succ, List.getElem_toArray]
      refine wpAnyH_take (i := 9) (v := undef) rfl (by kernel_rfl) (by kernel_rfl) (by kernel_rfl) (fun _ _ _ h => h) (Or.inr ⟨by rfl, rfl⟩) hHeld ?_
      simp only [Act.put, List.setIfInBounds_toArray, List.set_cons_zero, List.set_cons_succ, List.getElem_cons_zero, List.getElem_cons_succ, List.getElem_toArray]
      refine wpAnyH_take (i := 10) (v := undef) rfl (by kernel_rfl) (by kernel_rfl) (by kernel_rfl) (fun _ _ _ h => h) (Or.inr ⟨by rfl, rfl⟩) hHeld ?_
      simp only [Act.put, List.setIfInBounds_toArray, List.set_cons_zero, List.set_cons_succ, List.getElem_cons_zero, List.getElem_cons_succ, List.getElem_toArray]
      refine wpAnyH_take (i := 11) (v := undef) rfl (by kernel_rfl) (by kernel_rfl) (by kernel_rfl) (fun _ _ _ h => h) (Or.inr ⟨by rfl, rfl⟩) hHeld ?_
      simp only [Act.put, List.setIfInBounds_toArray, List.set_cons_zero, List.set_cons_succ, List.getElem_cons_zero, List.getElem_cons_succ, List.getElem_toArray]
      refine wpAnyH_take (i := 12) (v := undef) rfl (by kernel_rfl) (by kernel_rfl) (by kernel_rfl) (fun _ _ _ h => h) (Or.inr ⟨by rfl, rfl⟩) hHeld ?_
      simp only [Act.put, List.setIfInBounds_toArray, List.set_cons_zero, List.set_cons_succ, List.getElem_cons_zero, List.getElem_cons_succ, List.getElem_toArray]
      refine wpAnyH_take (i := 13) (v := undef) rfl (by kernel_rfl) (by kernel_rfl) (by kernel_rfl) (fun _ _ _ h => h) (Or.inr ⟨by rfl, rfl⟩) hHeld ?_
      simp only [Act.put, List.setIfInBounds_toArray, List.set_cons_zero, List.set_cons_succ, List.getElem_cons_zero, List.getElem_cons_succ, List.getElem_toArray]
      refine wpAnyH_take (i := 14) (v := undef) rfl (by kernel_rfl) (by kernel_rfl) (by kernel_rfl) (fun _ _ _ h => h) (Or.inr ⟨by rfl, rfl⟩) hHeld ?_
      simp only [Act.put, List.setIfInBounds_toArray, List.set_cons_zero, List.set_cons_succ, List.getElem_cons_zero, List.getElem_cons_succ, List.getElem_toArray]
      refine wpAnyH_take (i := 15) (v := undef) rfl (by kernel_rfl) (by kernel_rfl) (by kernel_rfl) (fun _ _ _ h => h) (Or.inr ⟨by rfl, rfl⟩) hHeld ?_
      simp only [Act.put, List.setIfInBounds_toArray, List.set_cons_zero, List.set_cons_succ, List.getElem_cons_zero, List.getElem_cons_succ, List.getElem_toArray]
      refine wpAnyH_take (i := 16) (v := .bool true) rfl (by kernel_rfl) (by kernel_rfl) (by kernel_rfl) (fun _ _ _ h => h) (Or.inl ⟨by rfl, fun w' hSw => by (go_simp)⟩) hHeld ?_
      simp only [Act.put, List.setIfInBounds_toArray, List.set_cons_zero, List.set_cons_succ, List.getElem_cons_zero, List.getElem_cons_succ, List.getElem_toArray]
      refine wpAnyH_done (by kernel_rfl) ?_ _
      clear hHeld
      go_wp2_with fail
      go_end0
      exact ⟨rfl, HE.out⟩
    · have n1 : ¬ S1.a < 0 := hn
      have n2 : (bs.length : Int) ≤ S1.a := by omega
      go_enter Tryd.func48, Tryd.ntmps48
      go_upto_region 1 with (first | (go_at_call 62; refine Calls.mono HL.out ?_; rintro e w1 ⟨rfl, H1, m1, t1⟩; have HM : Hid (Mch w1 t bs H1 S1 ∧ Tn W H w1 H1) := ⟨m1, t1⟩; have hq : H1.mb = H.mb := t1.q; clear m1 t1))
      have c0 := HM.out.1.c.b
      have c1 := HM.out.1.c.a
      have cl := HM.out.1.c.lt
      have ce := HM.out.1.c.e
      have cz := HM.out.1.c.fz
      rw [hq] at c0 c1 cl ce cz
      have HE : Hid (∃ H', Mch (w1.drew.setCell ⟨H.mb, 312, none⟩ (.int .i64 5)) t bs H' { S1 with e := 5 } ∧ Tn W H (w1.drew.setCell ⟨H.mb, 312, none⟩ (.int .i64 5)) H') := by
        have f0 := HM.out.1.up (drew_up w1)
        have f1 := f0.one (f0.c.setE 5) ((Fr.refl (One H1.mb) _).setCell (.inr rfl) _ _) rfl rfl
        rw [hq] at f1
        exact ⟨H1, f1.1, (HM.out.2.up (drew_up w1)).trans f1.2⟩
      refine wp_region_held_drew (S := fun W' => H.mb < W'.heap.size ∧ W'.cell? ⟨H.mb, 302, none⟩ = some (.int .i64 S1.a) ∧ W'.cell? ⟨H.mb, 0, none⟩ = some (.slice H1.ba bs.length H1.bc)) (by kernel_rfl) ⟨cl, c1, c0⟩ (fun hHeld => ?_)
      refine wpAnyH_take (i := 0) (v := ptr H.mb) rfl (by kernel_rfl) (by kernel_rfl) (by kernel_rfl) (fun _ _ _ h => h) (Or.inl ⟨by rfl, fun w' hSw => by (go_simp)⟩) hHeld ?_
      simp only [Act.put, List.setIfInBounds_toArray, List.set_cons_zero, List.set_cons_succ, List.getElem_cons_zero, List.getElem_toArray]
      refine wpAnyH_take (i := 1) (v := ptr H.mb) rfl (by kernel_rfl) (by kernel_rfl) (by kernel_rfl) (fun _ _ _ h => h) (Or.inl ⟨by rfl, fun w' hSw => by (go_simp)⟩) hHeld ?_
      simp only [Act.put, List.setIfInBounds_toArray, List.set_cons_zero, List.set_cons_succ, List.getElem_cons_zero, List.getElem_cons_succ, List.getElem_toArray]
      refine wpAnyH_take (i := 2) (v := .pointer (some ⟨H.mb, 302, none⟩)) rfl (by kernel_rfl) (by kernel_rfl) (by kernel_rfl) (fun _ _ _ h => h) (Or.inl ⟨by rfl, fun w' hSw => by (go_simp)⟩) hHeld ?_
      simp only [Act.put, List.setIfInBounds_toArray, List.set_cons_zero, List.set_cons_succ, List.getElem_cons_zero, List.getElem_cons_succ, List.getElem_toArray]
      refine wpAnyH_take (i := 3) (v := .int .i64 S1.a) rfl (by kernel_rfl) (by kernel_rfl) (by kernel_rfl) (fun _ _ _ h => h) (Or.inl ⟨by rfl, fun w' hSw => by (have q := hSw.2.1; have ql := hSw.1; go_simp)⟩) hHeld ?_
      simp only [Act.put, List.setIfInBounds_toArray, List.set_cons_zero, List.set_cons_succ, List.getElem_cons_zero, List.getElem_cons_succ, List.getElem_toArray]
      refine wpAnyH_take (i := 4) (v := .bool false) rfl (by kernel_rfl) (by kernel_rfl) (by kernel_rfl) (fun _ _ _ h => h) (Or.inl ⟨by rfl, fun w' hSw => by (go_simp)⟩) hHeld ?_
      simp only [Act.put, List.setIfInBounds_toArray, List.set_cons_zero, List.set_cons_succ, List.getElem_cons_zero, List.getElem_cons_succ, List.getElem_toArray]
      refine wpAnyH_take (i := 5) (v := .bool false) rfl (by kernel_rfl) (by kernel_rfl) (by kernel_rfl) (fun _ _ _ h => h) (Or.inl ⟨by rfl, fun w' hSw => by (go_simp)⟩) hHeld ?_
      simp only [Act.put, List.setIfInBounds_toArray, List.set_cons_zero, List.set_cons_succ, List.getElem_cons_zero, List.getElem_cons_succ, List.getElem_toArray]
      refine wpAnyH_take (i := 6) (v := ptr H.mb) rfl (by kernel_rfl) (by kernel_rfl) (by kernel_rfl) (fun _ _ _ h => h) (Or.inl ⟨by rfl, fun w' hSw => by (go_simp)⟩) hHeld ?_
      simp only [Act.put, List.setIfInBounds_toArray, List.set_cons_zero, List.set_cons_succ, List.getElem_cons_zero, List.getElem_cons_succ, List.getElem_toArray]
      refine wpAnyH_take (i := 7) (v := ptr H.mb) rfl (by kernel_rfl) (by kernel_rfl) (by kernel_rfl) (fun _ _ _ h => h) (Or.inl ⟨by rfl, fun w' hSw => by (go_simp)⟩) hHeld ?_
      simp only [Act.put, List.setIfInBounds_toArray, List.set_cons_zero, List.set_cons_succ, List.getElem_cons_zero, List.getElem_cons_succ, List.getElem_toArray]
      refine wpAnyH_take (i := 8) (v := .pointer (some ⟨H.mb, 302, none⟩)) rfl (by kernel_rfl) (by kernel_rfl) (by kernel_rfl) (fun _ _ _ h => h) (Or.inl ⟨by rfl, fun w' hSw => by (go_simp)⟩) hHeld ?_
      simp only [Act.put, List.setIfInBounds_toArray, List.set_cons_zero, List.set_cons_succ, List.getElem_cons_zero, List.getElem_cons_succ, List.getElem_toArray]
      refine wpAnyH_take (i := 9) (v := .int .i64 S1.a) rfl (by kernel_rfl) (by kernel_rfl) (by kernel_rfl) (fun _ _ _ h => h) (Or.inl ⟨by rfl, fun w' hSw => by (have q := hSw.2.1; have ql := hSw.1; go_simp)⟩) hHeld ?_
      simp only [Act.put, List.setIfInBounds_toArray, List.set_cons_zero, List.set_cons_succ, List.getElem_cons_zero, List.getElem_cons_succ, List.getElem_toArray]
      refine wpAnyH_take (i := 10) (v := ptr H.mb) rfl (by kernel_rfl) (by kernel_rfl) (by kernel_rfl) (fun _ _ _ h => h) (Or.inl ⟨by rfl, fun w' hSw => by (go_simp)⟩) hHeld ?_
      simp only [Act.put, List.setIfInBounds_toArray, List.set_cons_zero, List.set_cons_succ, List.getElem_cons_zero, List.getElem_cons_succ, List.getElem_toArray]
      refine wpAnyH_take (i := 11) (v := ptr H.mb) rfl (by kernel_rfl) (by kernel_rfl) (by kernel_rfl) (fun _ _ _ h => h) (Or.inl ⟨by rfl, fun w' hSw => by (go_simp)⟩) hHeld ?_
      simp only [Act.put, List.setIfInBounds_toArray, List.set_cons_zero, List.set_cons_succ, List.getElem_cons_zero, List.getElem_cons_succ, List.getElem_toArray]
      refine wpAnyH_take (i := 12) (v := .pointer (some ⟨H.mb, 0, none⟩)) rfl (by kernel_rfl) (by kernel_rfl) (by kernel_rfl) (fun _ _ _ h => h) (Or.inl ⟨by rfl, fun w' hSw => by (go_simp)⟩) hHeld ?_
      simp only [Act.put, List.setIfInBounds_toArray, List.set_cons_zero, List.set_cons_succ, List.getElem_cons_zero, List.getElem_cons_succ, List.getElem_toArray]
      refine wpAnyH_take (i := 13) (v := .slice H1.ba bs.length H1.bc) rfl (by kernel_rfl) (by kernel_rfl) (by kernel_rfl) (fun _ _ _ h => h) (Or.inl ⟨by rfl, fun w' hSw => by (have q := hSw.2.2; have ql := hSw.1; go_simp)⟩) hHeld ?_
      simp only [Act.put, List.setIfInBounds_toArray, List.set_cons_zero, List.set_cons_succ, List.getElem_cons_zero, List.getElem_cons_succ, List.getElem_toArray]
      refine wpAnyH_take (i := 14) (v := .int .i64 (bs.length : Int)) rfl (by kernel_rfl) (by kernel_rfl) (by kernel_rfl) (fun _ _ _ h => h) (Or.inl ⟨by rfl, fun w' hSw => by (go_simp)⟩) hHeld ?_
      simp only [Act.put, List.setIfInBounds_toArray, List.set_cons_zero, List.set_cons_succ, List.getElem_cons_zero, List.getElem_cons_succ, List.getElem_toArray]
      refine wpAnyH_take (i := 15) (v := .bool true) rfl (by kernel_rfl) (by kernel_rfl) (by kernel_rfl) (fun _ _ _ h => h) (Or.inl ⟨by rfl, fun w' hSw => by (go_simp)⟩) hHeld ?_
      simp only [Act.put, List.setIfInBounds_toArray, List.set_cons_zero, List.set_cons_succ, List.getElem_cons_zero, List.getElem_cons_succ, List.getElem_toArray]
      refine wpAnyH_take (i := 16) (v := .bool true) rfl (by kernel_rfl) (by kernel_rfl) (by kernel_rfl) (fun _ _ _ h => h) (Or.inl ⟨by rfl, fun w' hSw => by (go_simp)⟩) hHeld ?_
      simp only [Act.put, List.setIfInBounds_toArray, List.set_cons_zero, List.set_cons_succ, List.getElem_cons_zero, List.getElem_cons_succ, List.getElem_toArray]
      refine wpAnyH_done (by kernel_rfl) ?_ _
      clear hHeld
      go_wp2_with fail
      go_end0
      exact ⟨rfl, HE.out⟩
end
end Go.Proofs.YtldfjlepbbmhnaaDoor.Pp
