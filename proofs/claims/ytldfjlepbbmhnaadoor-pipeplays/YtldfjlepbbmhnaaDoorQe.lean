/- What is taken out of flight (take), whether a turn is made (turns), read off the program by the walk. Conditions: the machine lies in memory. -/
import Derived.Test.YtldfjlepbbmhnaaDoorQb
import Derived.Defers
import Derived.Recover
import Derived.BigQuiet
import Derived.Deep.QuietTactic
import Derived.Deep.RegionHeld3
import Derived.Deep.DrawnRows
import Derived.Deep.AppendLies
import Derived.Deep.DeepCutAuto
import Derived.Deep.RegionLaw
namespace Go.Proofs.YtldfjlepbbmhnaaDoor.Pp
open Go.ChangeShapes Go.WideShapes Go.ChangeAt Go.RowKit
open _root_.Go.Proofs.YtldfjlepbbmhnaaDoor.Op _root_.Go.Proofs.YtldfjlepbbmhnaaDoor.So _root_.Go.Proofs.YtldfjlepbbmhnaaDoor.Bu
open _root_.Go.Proofs.YtldfjlepbbmhnaaDoor.Tb (Tab TabAt Bnds)
set_option maxRecDepth 20000

abbrev ptr (q : Nat) : Value := .pointer (some ⟨q, 0, none⟩)
theorem drewN_below {B : Nat} {a w : World} (h : Below B a w) (n : Nat) : Below B a (w.drewN n) := ⟨h.os, h.tape, h.output, h.size, h.block⟩
theorem drew_up (w : World) : Below w.heap.size w w.drew := ⟨rfl, rfl, rfl, Nat.le_refl _, fun _ _ => rfl⟩
theorem ret_u8 {a b : Int} (h : a = b) : Ending.returned (.int .u8 a) = .returned (.int .u8 b) := by rw [h]
theorem cel_form (a im : Int) : wrap64 (a + im) % 256 = (a + im) % 256 := by unfold wrap64; omega
/-- The operations that may be issued. -/
structure OkM (o : O) : Prop where
  ok : o.Ok
  k : okO o = true
theorem OkM.regs {o : O} (h : OkM o) : o.d < 32 ∧ o.a < 32 ∧ o.b < 32 := okO_regs h.k h.ok
set_option maxHeartbeats 1000000 in
theorem less_any (a b : Int) (w : World) (ha : I64 a) (hb : I64 b) : Calls Tryd.prog 82 #[.int .i64 a, .int .i64 b] w fun e w' => e = .returned (.int .u64 (lessI a b)) ∧ w' = w := by
  obtain ⟨a0, a1⟩ := ha
  obtain ⟨b0, b1⟩ := hb
  by_cases h : a < b
  · rw [show lessI a b = 0 by unfold lessI; rw [if_pos h]]
    go_enter Tryd.func82, Tryd.ntmps82
    go_wp2
    go_ret
    exact ⟨rfl, rfl⟩
  · have e : lessI a b = a - b := by unfold lessI; rw [if_neg h]
    rw [e]
    clear e
    go_enter Tryd.func82, Tryd.ntmps82
    go_wp2
    go_ret
    refine ⟨ret_int (k := .u64) ?_, rfl⟩
    simp only [IntKind.wrap_u64]
    omega
variable {w : World} {t : Tab} {n : Nat} {H : Hx} {S : PM}
set_option maxHeartbeats 1000000 in
theorem cellOf_any (o : O) (h : MC w t n H S) (ho : OkM o) : Calls Tryd.prog 81 #[ptr H.mb, o.val] w fun e w' => e = .returned (.int .u8 (celI S o)) ∧ Below w.heap.size w w' := by
  have h0 := ho.ok.a0
  have h1 := ho.regs.2.1
  have hr := h.r o.a.toNat (by omega)
  have hq := h.lt
  have HC : Hid (wrap64 (S.r o.a.toNat + o.im) % 256 = celI S o) := cel_form _ _
  clear h ho
  generalize celI S o = c at *
  generalize S.r o.a.toNat = v at *
  generalize H.mb = q at *
  go_enter Tryd.func81, Tryd.ntmps81
  go_wp2_with fail
  go_quiet (fail)
  go_wp2_with fail
  go_ret
  exact ⟨ret_u8 HC.out, drewN_below (by go_grown) _⟩
set_option maxHeartbeats 2000000 in
theorem result_ok (o : O) (h : MC w t n H S) (ho : OkM o) (hi : ∀ k, I64 (S.r k)) (he : resE S o = 0) : Calls Tryd.prog 84 #[ptr H.mb, o.val] w fun e w' => e = .returned (.int .i64 (resV S o)) ∧ Below w.heap.size w w' := by
  obtain ⟨-, h1, h3⟩ := ho.regs
  have h0 := ho.ok.a0
  have h2 := ho.ok.b0
  have hq := h.lt
  by_cases g1 : o.op = 1
  · have e : resV S o = o.im := by unfold resV; rw [if_pos g1]
    rw [e]
    clear e h ho hi he
    go_enter Tryd.func84, Tryd.ntmps84
    go_wp2_with fail
    go_ret
    exact ⟨rfl, by go_grown⟩
  by_cases g2 : o.op = 15
  · have e : resV S o = S.m (celI S o).toNat := by unfold resV; rw [if_neg g1, if_pos g2]
    rw [e]
    have c0 : 0 ≤ celI S o := by unfold celI; omega
    have c1 : celI S o < 256 := by unfold celI; omega
    have hm := h.m (celI S o).toNat (by omega)
    have HC : Hid (∀ W, Below w.heap.size w W → Calls Tryd.prog 81 #[ptr H.mb, o.val] W fun e w' => e = .returned (.int .u8 (celI S o)) ∧ Below W.heap.size W w') := fun W hW => cellOf_any o (h.fr (Fr.of (X := Non) hW) fun e => e) ho
    have HM : Hid _ := h
    have hb1 : (o.op == 1) = false := by simpa using g1
    have hb2 : (o.op == 15) = true := by simpa using g2
    clear e h ho hi he g1 g2
    generalize hcc : celI S o = c at *
    have HCc : Hid (celI S o = c) := hcc
    clear hcc hm
    go_enter Tryd.func84, Tryd.ntmps84
    go_upto_region 5 with fail
    have HB : Hid (∀ W, Below (w.alloc (.cells o.cells 55)).heap.size (w.alloc (.cells o.cells 55)) W → MC W t n H S ∧ At W w.heap.size o.cells ∧ Below w.heap.size w W) := fun W hW => by
      have hx : Below w.heap.size w W := ((Below.refl _ w).alloc (Nat.le_refl _) _).trans (hW.mono (by simp))
      exact ⟨HM.out.fr (Fr.of (X := Non) hx) fun e => e, (At.new w o.cells 55).below hW (by simp), hx⟩
    generalize (w.alloc (.cells o.cells 55)) = X at *
    have HS : Hid (∀ W, Below X.heap.size X W → MC W t n H S ∧ At W w.heap.size o.cells) := fun W hW => ⟨(HB.out W hW).1, (HB.out W hW).2.1⟩
    refine wp_region_held_drew (S := fun W' => MC W' t n H S ∧ At W' w.heap.size o.cells) (by kernel_rfl) (HS.out _ (drew_up _)) (fun hHeld => ?_)
    refine wpAnyH_take (i := 0) (v := ptr H.mb) rfl (by kernel_rfl) (by kernel_rfl) (by kernel_rfl) (fun _ _ _ h => h) (Or.inl ⟨by rfl, fun w' hSw => by (go_simp)⟩) hHeld ?_
    simp only [Act.put, List.setIfInBounds_toArray, List.set_cons_zero, List.set_cons_succ, List.getElem_cons_zero, List.getElem_toArray]
    refine wpAnyH_take (i := 1) (v := ptr H.mb) rfl (by kernel_rfl) (by kernel_rfl) (by kernel_rfl) (fun _ _ _ h => h) (Or.inl ⟨by rfl, fun w' hSw => by (go_simp)⟩) hHeld ?_
    simp only [Act.put, List.setIfInBounds_toArray, List.set_cons_zero, List.set_cons_succ, List.getElem_cons_zero, List.getElem_cons_succ, List.getElem_toArray]
    refine wpAnyH_take (i := 2) (v := o.val) rfl (by kernel_rfl) (by kernel_rfl) (by kernel_rfl) (fun _ _ _ h => h) (Or.inl ⟨by rfl, fun w' hSw => by (have y0 := hSw.2.c 0 _ rfl; have y1 := hSw.2.c 1 _ rfl; have y2 := hSw.2.c 2 _ rfl; have y3 := hSw.2.c 3 _ rfl; have y4 := hSw.2.c 4 _ rfl; have yl := hSw.2.lt; go_simp)⟩) hHeld ?_
    simp only [Act.put, List.setIfInBounds_toArray, List.set_cons_zero, List.set_cons_succ, List.getElem_cons_zero, List.getElem_cons_succ, List.getElem_toArray]
    refine wpAnyH_take (i := 4) (v := ptr H.mb) rfl (by kernel_rfl) (by kernel_rfl) (by kernel_rfl) (fun _ _ _ h => h) (Or.inl ⟨by rfl, fun w' hSw => by (go_simp)⟩) hHeld ?_
    simp only [Act.put, List.setIfInBounds_toArray, List.set_cons_zero, List.set_cons_succ, List.getElem_cons_zero, List.getElem_cons_succ, List.getElem_toArray]
    refine wpAnyH_take (i := 5) (v := .pointer (some ⟨H.mb, 46, none⟩)) rfl (by kernel_rfl) (by kernel_rfl) (by kernel_rfl) (fun _ _ _ h => h) (Or.inl ⟨by rfl, fun w' hSw => by (go_simp)⟩) hHeld ?_
    simp only [Act.put, List.setIfInBounds_toArray, List.set_cons_zero, List.set_cons_succ, List.getElem_cons_zero, List.getElem_cons_succ, List.getElem_toArray]
    refine wpAnyH_ready (rs := [3]) (by kernel_rfl) (by simp) ?_
    refine AllReadyH.cons rfl (fun K hK => ?_) AllReadyH.nil
    go_simp
    refine Calls.mono (HC.out X.drew (HB.out _ (drew_up X)).2.2) ?_
    rintro e w5 ⟨rfl, h5⟩
    have hs5 := HS.out w5 ((drew_up X).trans (h5.mono (Nat.le_refl _)))
    refine hK.out _ _ hs5 (fun hHeld => ?_)
    clear hK K
    have HY : Hid (Below w.heap.size w w5) := (HB.out w5 ((drew_up X).trans (h5.mono (Nat.le_refl _)))).2.2
    clear h5 hs5
    refine wpAnyH_take (i := 6) (v := .pointer (some ⟨H.mb, 46 + c.toNat, none⟩)) rfl (by kernel_rfl) (by kernel_rfl) (by kernel_rfl) (fun _ _ _ h => h) (Or.inl ⟨by rfl, fun w' hSw => by (go_simp)⟩) hHeld ?_
    simp only [Act.put, List.setIfInBounds_toArray, List.set_cons_zero, List.set_cons_succ, List.getElem_cons_zero, List.getElem_cons_succ, List.getElem_toArray]
    refine wpAnyH_take (i := 7) (v := .int .i64 (S.m c.toNat)) rfl (by kernel_rfl) (by kernel_rfl) (by kernel_rfl) (fun _ _ _ h => h) (Or.inl ⟨by rfl, fun w' hSw => by (have q := hSw.1.m c.toNat (by omega); have ql := hSw.1.lt; go_simp)⟩) hHeld ?_
    simp only [Act.put, List.setIfInBounds_toArray, List.set_cons_zero, List.set_cons_succ, List.getElem_cons_zero, List.getElem_cons_succ, List.getElem_toArray]
    refine wpAnyH_take (i := 8) (v := .int .i64 (S.m c.toNat)) rfl (by kernel_rfl) (by kernel_rfl) (by kernel_rfl) (fun _ _ _ h => h) (Or.inl ⟨by rfl, fun w' hSw => by (go_simp)⟩) hHeld ?_
    simp only [Act.put, List.setIfInBounds_toArray, List.set_cons_zero, List.set_cons_succ, List.getElem_cons_zero, List.getElem_cons_succ, List.getElem_toArray]
    refine wpAnyH_done (by kernel_rfl) ?_ _
    clear hHeld
    go_wp2_with fail
    go_ret
    exact ⟨rfl, HY.out⟩
  · have e : resV S o = rkV o.op (S.r o.a.toNat) (S.r o.b.toNat) := by unfold resV; rw [if_neg g1, if_neg g2]
    have e2 : rkE o.op (S.r o.b.toNat) = 0 := by unfold resE at he; rw [if_neg g1, if_neg g2] at he; exact he
    rw [e]
    have hr := h.r o.a.toNat (by omega)
    have hs := h.r o.b.toNat (by omega)
    have HR : Hid (∀ W, Calls Tryd.prog 24 #[.int .i8 o.op, .int .i64 (S.r o.a.toNat), .int .i64 (S.r o.b.toNat)] W fun e w' => e = .returned (.tuple #[.int .i64 (rkV o.op (S.r o.a.toNat) (S.r o.b.toNat)), .int .i64 0]) ∧ w' = W) := fun W => by
      have := rk_any o.op (S.r o.a.toNat) (S.r o.b.toNat) W (hi _).1 (hi _).2
      rw [e2] at this; exact this
    have hb1 : (o.op == 1) = false := by simpa using g1
    have hb2 : (o.op == 15) = false := by simpa using g2
    clear e e2 h ho hi he
    generalize rkV o.op (S.r o.a.toNat) (S.r o.b.toNat) = x at *
    generalize S.r o.a.toNat = va at *
    generalize S.r o.b.toNat = vb at *
    generalize H.mb = q at *
    go_enter Tryd.func84, Tryd.ntmps84
    go_wp2_with fail
    go_quiet (first | (go_at_call 24; refine Calls.quiet_of_same (HR.out _)))
    go_wp2_with fail
    go_ret
    exact ⟨rfl, drewN_below (by go_grown) _⟩
set_option maxHeartbeats 2000000 in
theorem result_trap (o : O) (h : MC w t n H S) (ho : OkM o) (hi : ∀ k, I64 (S.r k)) (he : resE S o ≠ 0) : Calls Tryd.prog 84 #[ptr H.mb, o.val] w fun e w' => e = .panicked [{ v := .iface 109 (.agg #[.int .i64 (resE S o), .int .i64 0]), recovered := false }] ∧ Below w.heap.size w w' := by
  obtain ⟨-, h1, h3⟩ := ho.regs
  have h0 := ho.ok.a0
  have h2 := ho.ok.b0
  have hq := h.lt
  have g1 : o.op ≠ 1 := fun e => he (by unfold resE; rw [if_pos e])
  have g2 : o.op ≠ 15 := fun e => he (by unfold resE; rw [if_neg g1, if_pos e])
  have e2 : resE S o = rkE o.op (S.r o.b.toNat) := by unfold resE; rw [if_neg g1, if_neg g2]
  have hr := h.r o.a.toNat (by omega)
  have hs := h.r o.b.toNat (by omega)
  have HR : Hid (∀ W, Calls Tryd.prog 24 #[.int .i8 o.op, .int .i64 (S.r o.a.toNat), .int .i64 (S.r o.b.toNat)] W fun e w' => e = .returned (.tuple #[.int .i64 (rkV o.op (S.r o.a.toNat) (S.r o.b.toNat)), .int .i64 (resE S o)]) ∧ w' = W) := fun W => by
    have := rk_any o.op (S.r o.a.toNat) (S.r o.b.toNat) W (hi _).1 (hi _).2
    rw [← e2] at this; exact this
  have hb1 : (o.op == 1) = false := by simpa using g1
  have hb2 : (o.op == 15) = false := by simpa using g2
  have hb3 : (resE S o != 0) = true := by simpa using he
  clear e2 h ho hi he g1 g2
  generalize rkV o.op (S.r o.a.toNat) (S.r o.b.toNat) = x at *
  generalize resE S o = er at *
  generalize S.r o.a.toNat = va at *
  generalize S.r o.b.toNat = vb at *
  generalize H.mb = q at *
  go_enter Tryd.func84, Tryd.ntmps84
  go_wp2_with fail
  go_quiet (first | (go_at_call 24; refine Calls.quiet_of_same (HR.out _)))
  go_wp2_with fail
  exact ⟨rfl, rfl, drewN_below (by go_grown) _⟩
end Go.Proofs.YtldfjlepbbmhnaaDoor.Pp
namespace Go.Proofs.YtldfjlepbbmhnaaDoor.Pp
open Go.ChangeShapes Go.WideShapes Go.ChangeAt Go.RowKit
open _root_.Go.Proofs.YtldfjlepbbmhnaaDoor.Op _root_.Go.Proofs.YtldfjlepbbmhnaaDoor.So _root_.Go.Proofs.YtldfjlepbbmhnaaDoor.Bu
open _root_.Go.Proofs.YtldfjlepbbmhnaaDoor.Tb (Tab TabAt Bnds)
set_option maxRecDepth 20000

theorem info118 : (Tryd.prog.info? 118).map (fun i => (i.zero, i.size, i.bytes)) = some (some (.agg #[.int .u8 0, .int .u8 0, .int .i64 0]), 3, 16) := by kernel_rfl
theorem fr_grown {W W' : World} {o : Option Nat} (h : W.grownBy W' o) : Fr (fun b => o = some b) W W' := ⟨h.os, h.tape, h.output, h.size, fun k hk hx => h.block k hk fun e => hx e.symm⟩
theorem row_slice {W : World} {B e s n : Nat} {v : Value} {xs : List Value} (h : W.ownsRow B e s v n xs) : ∃ ao c, v = .slice ao n c := by
  obtain ⟨-, ⟨h1, h2⟩ | ⟨g, cap, cur, h1, -⟩⟩ := h
  · exact ⟨none, 0, by rw [h1, h2]⟩
  · exact ⟨_, cap, h1⟩
section
variable {W W' : World} {t : Tab} {bs : List Bn} {H : Hx} {S : PM}
def setRv (H : Hx) (k : Nat) (v : Value) : Hx := { H with rv := fun j => if j = k then v else H.rv j }
/-- A row of what is in flight turns, in its own block or in a new one. -/
theorem Mch.row (h : Mch W t bs H S) {k : Nat} (hk : k < 8) {v' : Value} {l : List F} (hg : W.grownBy W' (H.rv k).ownBlock) (ho : W'.ownsRow 0 118 3 v' l.length (fcells l)) (hb : v'.ownBlock = (H.rv k).ownBlock ∨ v'.ownBlock = some W.heap.size ∨ v'.ownBlock = none) :
    MC W' t bs.length H S ∧ Mch (W'.setCell ⟨H.mb, 304 + k, none⟩ v') t bs (setRv H k v') { S with f := fun j => if j = k then l else S.f j } ∧ Tn W H (W'.setCell ⟨H.mb, 304 + k, none⟩ v') (setRv H k v') := by
  have g := fr_grown hg
  have c' : MC W' t bs.length H S := h.c.fr g fun e => h.d3 k hk e
  have g2 : Fr (own H) W (W'.setCell ⟨H.mb, 304 + k, none⟩ v') := (g.mono fun b _ e => .inr (.inl ⟨k, hk, e⟩)).setCell (.inr (.inl rfl)) _ _
  have gx : Fr (fun b => (H.rv k).ownBlock = some b ∨ b = H.mb) W (W'.setCell ⟨H.mb, 304 + k, none⟩ v') := (g.mono fun b _ e => .inl e).setCell (.inr (.inr rfl)) _ _
  have hm := h.c.lt
  have vb : ∀ b, v'.ownBlock = some b → (H.rv k).ownBlock = some b ∨ b = W.heap.size := fun b e => by
    rcases hb with hb | hb | hb
    · exact .inl (hb ▸ e)
    · rw [hb] at e; injection e with e; exact .inr e.symm
    · rw [hb] at e; cases e
  have rvl : ∀ i, i < 8 → ∀ b, (H.rv i).ownBlock = some b → b < W.heap.size := fun i hi b e => ((h.rr i hi).lt b e).2
  have pvl : ∀ b, H.pv.ownBlock = some b → b < W.heap.size := fun b e => (h.pp.lt b e).2
  have tn : Tn W H (W'.setCell ⟨H.mb, 304 + k, none⟩ v') (setRv H k v') := ⟨g2, fun b hb' => by
    rcases hb' with e | ⟨i, hi, e⟩ | e
    · exact .inl (.inl e)
    · by_cases ei : i = k
      · subst ei
        have e : v'.ownBlock = some b := by simpa [setRv] using e
        exact (vb b e).imp (fun e => .inr (.inl ⟨i, hi, e⟩)) fun e => by omega
      · exact .inl (.inr (.inl ⟨i, hi, by simpa [setRv, ei] using e⟩))
    · exact .inl (.inr (.inr e)), rfl, rfl⟩
  refine ⟨c', ⟨c'.setF k hk v' _, fun i hi => ?_, ?_, ?_, ?_, ?_, h.d4, bF_go h.bF tn rfl⟩, tn⟩
  · by_cases ei : i = k
    · subst ei
      simp only [setRv, if_true]
      exact row_fr ho ((Fr.refl (One H.mb) W').setCell (.inr rfl) _ _) fun b e e2 => by
        have e2 : b = H.mb := e2
        subst e2
        rcases vb _ e with e | e
        · exact h.d3 i hi e
        · omega
    · simp only [setRv, if_neg ei]
      exact row_fr (h.rr i hi) gx fun b e e2 => by
        rcases e2 with e2 | e2
        · exact h.d1 i hi k hk ei b e e2
        · subst e2; exact h.d3 i hi e
  · exact row_fr h.pp gx fun b e e2 => by
      rcases e2 with e2 | e2
      · exact h.d2 k hk b e2 e
      · subst e2; exact h.d4 e
  · intro i hi j hj hij b e1 e2
    by_cases ei : i = k
    · have ej : j ≠ k := fun e => hij (ei.trans e.symm)
      have e1 : v'.ownBlock = some b := by simpa [setRv, ei] using e1
      have e2 : (H.rv j).ownBlock = some b := by simpa [setRv, ej] using e2
      rcases vb b e1 with e | e
      · exact h.d1 k hk j hj (fun e => ej e.symm) b e e2
      · have := rvl j hj b e2; omega
    · have e1 : (H.rv i).ownBlock = some b := by simpa [setRv, ei] using e1
      by_cases ej : j = k
      · have e2 : v'.ownBlock = some b := by simpa [setRv, ej] using e2
        rcases vb b e2 with e | e
        · exact h.d1 i hi k hk ei b e1 e
        · have := rvl i hi b e1; omega
      · have e2 : (H.rv j).ownBlock = some b := by simpa [setRv, ej] using e2
        exact h.d1 i hi j hj hij b e1 e2
  · intro i hi b e1 e2
    by_cases ei : i = k
    · have e1 : v'.ownBlock = some b := by simpa [setRv, ei] using e1
      rcases vb b e1 with e | e
      · exact h.d2 k hk b e e2
      · have := pvl b e2; omega
    · exact h.d2 i hi b (by simpa [setRv, ei] using e1) e2
  · intro i hi e1
    by_cases ei : i = k
    · have e1 : v'.ownBlock = some H.mb := by simpa [setRv, ei] using e1
      rcases vb _ e1 with e | e
      · exact h.d3 k hk e
      · omega
    · exact h.d3 i hi (by simpa [setRv, ei] using e1)
theorem putF_eq (S : PM) (cy : Nat) (x : F) : putF S cy x = { S with f := fun j => if j = cy % 8 then S.f (cy % 8) ++ [x] else S.f j } := by
  unfold putF
  congr 1
  funext j
  by_cases e : j = cy % 8
  · rw [if_pos e, if_pos e, e]
  · rw [if_neg e, if_neg e]
set_option maxHeartbeats 4000000 in
theorem put_any (cy : Nat) (x : F) (h : Mch W t bs H S) (hl : (S.f (cy % 8)).length ≤ 1000000000) : Calls Tryd.prog 80 #[.pointer (some ⟨H.mb, 304, none⟩), .int .i64 (cy : Int), .agg #[.int .u8 x.w, .int .u8 x.n, .int .i64 x.v]] W fun e w' => e = .returned (.tuple #[]) ∧ ∃ H', Mch w' t bs H' (putF S cy x) ∧ Tn W H w' H' := by
  obtain ⟨i0, hi, hi2⟩ := Option.map_eq_some_iff.1 info118
  simp only [Prod.mk.injEq] at hi2
  have HI : Hid (Tryd.prog.info? 118 = some i0 ∧ i0.zero = some (.agg #[.int .u8 0, .int .u8 0, .int .i64 0]) ∧ i0.size = 3 ∧ i0.bytes = 16) := ⟨hi, hi2.1, hi2.2.1, hi2.2.2⟩
  rw [putF_eq]
  have hk : cy % 8 < 8 := Nat.mod_lt _ (by decide)
  have e1 : Int.tmod (cy : Int) 8 = ((cy % 8 : Nat) : Int) := by rw [Int.tmod_eq_emod_of_nonneg (by omega)]; omega
  generalize cy % 8 = k at *
  have k0 : (0 : Int) ≤ (k : Int) := by omega
  have k8 : (k : Int) < 8 := by omega
  have HM : Hid (Mch W t bs H S) := h
  clear h hi hi2
  go_enter Tryd.func80, Tryd.ntmps80
  go_upto_region 2 with fail
  have HX : Hid (Mch (W.alloc (.cells #[.int .u8 x.w, .int .u8 x.n, .int .i64 x.v] 118)) t bs H S ∧ Tn W H (W.alloc (.cells #[.int .u8 x.w, .int .u8 x.n, .int .i64 x.v] 118)) H ∧ At (W.alloc (.cells #[.int .u8 x.w, .int .u8 x.n, .int .i64 x.v] 118)) W.heap.size #[.int .u8 x.w, .int .u8 x.n, .int .i64 x.v]) := by
    have g : Below W.heap.size W (W.alloc (.cells #[.int .u8 x.w, .int .u8 x.n, .int .i64 x.v] 118)) := (Below.refl _ _).alloc (Nat.le_refl _) _
    exact ⟨HM.out.up g, Tn.of g, At.new _ _ _⟩
  clear HM
  generalize (W.alloc (.cells #[.int .u8 x.w, .int .u8 x.n, .int .i64 x.v] 118)) = X at *
  have f0 := HX.out.1.c.f k hk
  have q0 := HX.out.2.2.c 0 _ rfl
  have q1 := HX.out.2.2.c 1 _ rfl
  have q2 := HX.out.2.2.c 2 _ rfl
  have ql := HX.out.2.2.lt
  have fl := HX.out.1.c.lt
  have e2 : X.drew.heap.size = X.heap.size := rfl
  go_region_law
    ((refine step_append_lies _ (by rfl) _ _ 82 (by rfl) 0 118 i0 (.agg #[.int .u8 0, .int .u8 0, .int .i64 0]) 3 16 Tryd.underlying82 HI.out.1 HI.out.2.1 HI.out.2.2.1 HI.out.2.2.2 rfl (by decide) (H.rv k) (S.f k).length (fcells (S.f k)) (by rfl) ((HX.out.1.rr k hk).drew.alloc _) ⟨X.heap.size, 0, none⟩ 1 1 [.int .u8 x.w, .int .u8 x.n, .int .i64 x.v] (by rfl) rfl (World.news_of_block (heap_alloc_new X.drew (.cells #[.int .u8 x.w, .int .u8 x.n, .int .i64 x.v] 118))) (by simp [Value.oneCell']) (by decide) (by unfold maxLen; omega) (by omega) (Nat.zero_le _) _ rfl ?_; intro g cap2 w6 hown hgrow hg hlt3; have HU : Hid (MC w6 t bs.length H S ∧ Mch (w6.setCell ⟨H.mb, 304 + k, none⟩ (.slice (some ⟨g, 0, none⟩) ((S.f k).length + 1) cap2)) t bs (setRv H k (.slice (some ⟨g, 0, none⟩) ((S.f k).length + 1) cap2)) { S with f := fun j => if j = k then S.f k ++ [x] else S.f j } ∧ Tn W H (w6.setCell ⟨H.mb, 304 + k, none⟩ (.slice (some ⟨g, 0, none⟩) ((S.f k).length + 1) cap2)) (setRv H k (.slice (some ⟨g, 0, none⟩) ((S.f k).length + 1) cap2))) := (by have hup : Below X.heap.size X (X.alloc (.cells #[.int .u8 x.w, .int .u8 x.n, .int .i64 x.v] 118)).drew := ((Below.refl _ X).alloc (Nat.le_refl _) _).drew; have hh := (HX.out.1.up hup).row hk (v' := .slice (some ⟨g, 0, none⟩) ((S.f k).length + 1) cap2) (l := S.f k ++ [x]) hgrow (by rw [fcells_snoc, List.length_append]; exact hown) (hg.elim (fun e => .inl e.symm) (fun e => .inr (.inl (congrArg some e)))); exact ⟨hh.1, hh.2.1, (HX.out.2.1.up hup).trans hh.2.2⟩); have z0 := HU.out.1.f k hk; have z1 := HU.out.1.fz; have z2 := HU.out.1.lt; clear hown hgrow hg hlt3))
  all_goals
    go_wp2_with fail
    go_end0
    exact ⟨rfl, _, HU.out.2.1, HU.out.2.2⟩
end
end Go.Proofs.YtldfjlepbbmhnaaDoor.Pp
namespace Go.Proofs.YtldfjlepbbmhnaaDoor.Pp
open Go.ChangeShapes Go.WideShapes Go.ChangeAt Go.RowKit
open _root_.Go.Proofs.YtldfjlepbbmhnaaDoor.Op _root_.Go.Proofs.YtldfjlepbbmhnaaDoor.So _root_.Go.Proofs.YtldfjlepbbmhnaaDoor.Bu
open _root_.Go.Proofs.YtldfjlepbbmhnaaDoor.Tb (Tab TabAt Bnds)
set_option maxRecDepth 20000

section
variable {W : World} {t : Tab} {bs : List Bn} {H : Hx} {S : PM}
theorem row_cut {V : World} {ao : Option Addr} {n c : Nat} {xs : List Value} (h : V.ownsRow 0 118 3 (.slice ao n c) n xs) : V.ownsRow 0 118 3 (.slice ao 0 c) 0 [] := by
  obtain ⟨-, ⟨h1, h2⟩ | ⟨g, cap, cur, h1, h2, h3, h4, h5, h6, h7⟩⟩ := h
  · injection h1 with a b c
    subst a b c
    exact ⟨rfl, .inl ⟨rfl, rfl⟩⟩
  · injection h1 with a b c
    subst a c
    exact ⟨rfl, .inr ⟨g, _, cur, rfl, h2, h3, Nat.zero_le _, h5, h6, by simp⟩⟩
set_option maxHeartbeats 2000000 in
theorem take_any (ao : Option Addr) (c : Nat) (h : Mch W t bs H S) (hs : S.s ≤ 1000000000000) (hrv : H.rv (S.s % 8) = .slice ao (S.f (S.s % 8)).length c) : Calls Tryd.prog 79 #[.pointer (some ⟨H.mb, 304, none⟩), .int .i64 (S.s : Int)] W fun e w' => e = .returned (.slice ao (S.f (S.s % 8)).length c) ∧ w' = W.setCell ⟨H.mb, 304 + S.s % 8, none⟩ (.slice ao 0 c) := by
  have hk : S.s % 8 < 8 := Nat.mod_lt _ (by decide)
  have e1 : Int.tmod (S.s : Int) 8 = ((S.s % 8 : Nat) : Int) := by rw [Int.tmod_eq_emod_of_nonneg (by omega)]; omega
  have f0 := h.c.f (S.s % 8) hk
  have fz := h.c.fz
  have fl := h.c.lt
  have hn : ao = none → (S.f (S.s % 8)).length = 0 ∧ c = 0 := fun e => by
    have ho := h.rr (S.s % 8) hk
    rw [hrv, e] at ho
    obtain ⟨-, ⟨h1, h2⟩ | ⟨g, cap, cur, h1, -⟩⟩ := ho
    · injection h1 with _ _ h1; exact ⟨h2, h1⟩
    · injection h1 with h1; cases h1
  rw [hrv] at f0
  have hlc : (S.f (S.s % 8)).length ≤ c := by
    have ho := h.rr (S.s % 8) hk
    rw [hrv] at ho
    obtain ⟨-, ⟨h1, h2⟩ | ⟨g, cap, cur, h1, -, -, h4, -⟩⟩ := ho
    · injection h1; omega
    · injection h1 with _ _ h1; omega
  clear h hrv
  generalize (S.f (S.s % 8)).length = len at *
  generalize S.s % 8 = k at *
  have k0 : (0 : Int) ≤ (k : Int) := by omega
  have k8 : (k : Int) < 8 := by omega
  generalize H.mb = q at *
  cases ao with
  | none =>
    obtain ⟨rfl, rfl⟩ := hn rfl
    clear hn
    go_enter Tryd.func79, Tryd.ntmps79
    go_wp2_with fail
    go_ret
    exact ⟨rfl, rfl⟩
  | some a =>
    clear hn
    go_enter Tryd.func79, Tryd.ntmps79
    go_wp2_with fail
    go_ret
    exact ⟨rfl, rfl⟩
theorem takeF_eq (S : PM) : takeF S = { S with f := fun j => if j = S.s % 8 then [] else S.f j } := rfl
/-- What lands is no more in flight. -/
theorem Mch.taken {ao : Option Addr} {c : Nat} (h : Mch W t bs H S) (hrv : H.rv (S.s % 8) = .slice ao (S.f (S.s % 8)).length c) : Mch (W.setCell ⟨H.mb, 304 + S.s % 8, none⟩ (.slice ao 0 c)) t bs (setRv H (S.s % 8) (.slice ao 0 c)) (takeF S) ∧ Tn W H (W.setCell ⟨H.mb, 304 + S.s % 8, none⟩ (.slice ao 0 c)) (setRv H (S.s % 8) (.slice ao 0 c)) := by
  have hk : S.s % 8 < 8 := Nat.mod_lt _ (by decide)
  have ho := h.rr (S.s % 8) hk
  rw [hrv] at ho
  have hh := h.row (W' := W) hk (v' := .slice ao 0 c) (l := []) ⟨rfl, rfl, rfl, Nat.le_refl _, fun _ _ _ => rfl⟩ (row_cut ho) (.inl (by rw [hrv]; cases ao <;> rfl))
  exact ⟨hh.2.1, hh.2.2⟩
/-- What lands, cell by cell, while only other blocks turn. -/
theorem Mch.lands {ao : Option Addr} {c : Nat} (h : Mch W t bs H S) (hrv : H.rv (S.s % 8) = .slice ao (S.f (S.s % 8)).length c) : 0 < (S.f (S.s % 8)).length → ∃ g, ao = some ⟨g, 0, none⟩ ∧ g < W.heap.size ∧ g ≠ H.mb ∧ ∀ j u, (fcells (S.f (S.s % 8)))[j]? = some u → W.cell? ⟨g, j, none⟩ = some u := by
  intro h0
  have hk : S.s % 8 < 8 := Nat.mod_lt _ (by decide)
  have ho := h.rr (S.s % 8) hk
  have hd := h.d3 (S.s % 8) hk
  rw [hrv] at ho hd
  obtain ⟨h1, ⟨-, h3⟩ | ⟨g, cap, cur, h2, -, h4, -, -, -, h8⟩⟩ := id ho
  · omega
  · injection h2 with h2
    subst h2
    refine ⟨g, rfl, (ho.lt g rfl).2, fun e => hd (by rw [← e]; rfl), fun j u hu => ?_⟩
    rw [cell_of_row W g j cur 118 (0, 0) h4]
    have hj : j < (S.f (S.s % 8)).length * 3 := by
      have := (List.getElem?_eq_some_iff.1 hu).1
      omega
    rw [← h8, List.getElem?_take, if_pos hj, Array.getElem?_toList] at hu
    exact hu
set_option maxHeartbeats 2000000 in
theorem turns_any (o : O) {L : Nat} (h : Mch W t bs H S) (hS : S.Ok L) (ho : OkM o) (h3 : o.op = 19 ∨ o.op = 22 ∨ o.op = 23) : Calls Tryd.prog 83 #[ptr H.mb, o.val] W fun e w' => e = .returned (.bool (trnB S o)) ∧ Mch w' t bs H (trnM S o) ∧ Tn W H w' H := by
  have h0 := ho.ok.a0
  have h1 := ho.regs.2.1
  have hr := h.c.r o.a.toNat (by omega)
  have hc := h.c.c
  have hq := h.c.lt
  have fz := h.c.fz
  have HM : Hid (∀ V, Below W.heap.size W V → Mch V t bs H S ∧ Tn W H V H) := fun V hV => ⟨h.up hV, Tn.of hV⟩
  by_cases g1 : o.op = 19
  · have e : trnB S o = (S.r o.a.toNat != 0) := by unfold trnB; rw [if_pos g1, Bool.eq_iff_iff]; simp
    have e2 : trnM S o = S := by unfold trnM; rw [if_pos g1]
    rw [e, e2]
    clear e e2 h hS ho h3
    generalize S.r o.a.toNat = v at *
    go_enter Tryd.func83, Tryd.ntmps83
    go_wp2_with fail
    go_quiet (fail)
    go_wp2_with fail
    go_ret
    refine ⟨rfl, HM.out _ ?_⟩
    exact drewN_below (by go_grown) _
  by_cases g2 : o.op = 22
  · have e : trnB S o = decide (S.r o.a.toNat < o.b) := by unfold trnB; rw [if_neg g1, if_pos g2]
    have e2 : trnM S o = S := by unfold trnM; rw [if_neg g1, if_pos g2]
    have b0 := ho.ok.b0
    have b1 := ho.ok.b1
    rw [e, e2]
    clear e e2 h hS ho h3 g1
    generalize S.r o.a.toNat = v at *
    go_enter Tryd.func83, Tryd.ntmps83
    go_wp2_with fail
    go_quiet (fail)
    go_wp2_with fail
    go_ret
    refine ⟨rfl, HM.out _ ?_⟩
    exact drewN_below (by go_grown) _
  · have g3 : o.op = 23 := by omega
    have e : trnB S o = decide (0 < S.c - min S.c 1) := by unfold trnB; rw [if_neg g1, if_neg g2]
    have e2 : trnM S o = decM S := by unfold trnM; rw [if_neg g1, if_neg g2]
    have c0 := hS.c0
    have c1 := hS.c1
    have HT : Hid (∀ x, x = S.c - min S.c 1 → Mch (W.setCell ⟨H.mb, 303, none⟩ (.int .u64 x)) t bs H (decM S) ∧ Tn W H (W.setCell ⟨H.mb, 303, none⟩ (.int .u64 x)) H) := fun x hx => by
      subst hx
      exact h.one (h.c.setC (S.c - min S.c 1)) ((Fr.refl (One H.mb) _).setCell (.inr rfl) _ _) rfl rfl
    have HU : Hid (∀ V V', (Mch V t bs H (decM S) ∧ Tn W H V H) → Below V.heap.size V V' → Mch V' t bs H (decM S) ∧ Tn W H V' H) := fun V V' h1 h2 => ⟨h1.1.up h2, h1.2.up h2⟩
    rw [e, e2]
    have hb1 : (o.op == 19) = false := by simpa using g1
    have hb2 : (o.op == 22) = false := by simpa using g2
    clear e e2 hS ho h3 g1 g2 g3 hr h
    by_cases hc1 : S.c ≤ 1
    · have hm : S.c - min S.c 1 = 0 := by omega
      have hd : decide (0 < S.c - min S.c 1) = false := by rw [hm]; rfl
      rw [hd]
      have HT0 : Hid _ := HT.out 0 hm.symm
      clear hm hd
      go_enter Tryd.func83, Tryd.ntmps83
      go_upto_region 6 with fail
      go_region
      all_goals
        go_wp2_with fail
        go_ret
        exact ⟨rfl, HU.out _ _ HT0.out (((Below.refl _ _).alloc (Nat.le_refl _) _).drew)⟩
    · have hm : S.c - min S.c 1 = S.c - 1 := by omega
      have hd : decide (0 < S.c - min S.c 1) = true := by rw [hm]; exact decide_eq_true (by omega)
      rw [hd]
      have HT0 : Hid _ := HT.out (S.c - 1) hm.symm
      have hc2 : 1 < S.c := by omega
      clear hm hd
      go_enter Tryd.func83, Tryd.ntmps83
      go_upto_region 6 with fail
      go_region
      all_goals
        go_wp2_with fail
        go_ret
        exact ⟨rfl, HU.out _ _ HT0.out (((Below.refl _ _).alloc (Nat.le_refl _) _).drew)⟩
end
end Go.Proofs.YtldfjlepbbmhnaaDoor.Pp
