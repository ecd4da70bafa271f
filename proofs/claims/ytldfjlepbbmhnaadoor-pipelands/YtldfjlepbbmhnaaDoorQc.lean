/- What an operation reads and reckons (less, cellOf, turns, result), read off the program by the walk. Conditions: the machine lies in memory. -/
import Derived.Test.YtldfjlepbbmhnaaDoorQb
import Derived.Defers
import Derived.Recover
import Derived.BigQuiet
import Derived.Deep.QuietTactic
import Derived.Deep.RegionHeld3
import Derived.Deep.DrawnRows
import Derived.Deep.AppendLies
import Derived.Deep.DeepCutAuto
import Derived.Deep.RegionLaw
namespace Go.Proofs.YtldfjlepbbmhnaaDoor.Pp
open Go.ChangeShapes Go.WideShapes Go.ChangeAt Go.RowKit
open _root_.Go.Proofs.YtldfjlepbbmhnaaDoor.Op _root_.Go.Proofs.YtldfjlepbbmhnaaDoor.So _root_.Go.Proofs.YtldfjlepbbmhnaaDoor.Bu
open _root_.Go.Proofs.YtldfjlepbbmhnaaDoor.Tb (Tab TabAt Bnds)
set_option maxRecDepth 20000

abbrev ptr (q : Nat) : Value := .pointer (some ⟨q, 0, none⟩)
theorem drewN_below {B : Nat} {a w : World} (h : Below B a w) (n : Nat) : Below B a (w.drewN n) := ⟨h.os, h.tape, h.output, h.size, h.block⟩
theorem drew_up (w : World) : Below w.heap.size w w.drew := ⟨rfl, rfl, rfl, Nat.le_refl _, fun _ _ => rfl⟩
theorem ret_u8 {a b : Int} (h : a = b) : Ending.returned (.int .u8 a) = .returned (.int .u8 b) := by rw [h]
theorem cel_form (a im : Int) : wrap64 (a + im) % 256 = (a + im) % 256 := by unfold wrap64; omega
/-- The operations that may be issued. -/
structure OkM (o : O) : Prop where
  ok : o.Ok
  k : okO o = true
theorem OkM.regs {o : O} (h : OkM o) : o.d < 32 ∧ o.a < 32 ∧ o.b < 32 := okO_regs h.k h.ok
set_option maxHeartbeats 1000000 in
theorem less_any (a b : Int) (w : World) (ha : I64 a) (hb : I64 b) : Calls Tryd.prog 82 #[.int .i64 a, .int .i64 b] w fun e w' => e = .returned (.int .u64 (lessI a b)) ∧ w' = w := by
  obtain ⟨a0, a1⟩ := ha
  obtain ⟨b0, b1⟩ := hb
  by_cases h : a < b
  · rw [show lessI a b = 0 by unfold lessI; rw [if_pos h]]
    go_enter Tryd.func82, Tryd.ntmps82
    go_wp2
    go_ret
    exact ⟨rfl, rfl⟩
  · have e : lessI a b = a - b := by unfold lessI; rw [if_neg h]
    rw [e]
    clear e
    go_enter Tryd.func82, Tryd.ntmps82
    go_wp2
    go_ret
    refine ⟨ret_int (k := .u64) ?_, rfl⟩
    simp only [IntKind.wrap_u64]
    omega
variable {w : World} {t : Tab} {n : Nat} {H : Hx} {S : PM}
set_option maxHeartbeats 1000000 in
theorem cellOf_any (o : O) (h : MC w t n H S) (ho : OkM o) : Calls Tryd.prog 81 #[ptr H.mb, o.val] w fun e w' => e = .returned (.int .u8 (celI S o)) ∧ Below w.heap.size w w' := by
  have h0 := ho.ok.a0
  have h1 := ho.regs.2.1
  have hr := h.r o.a.toNat (by omega)
  have hq := h.lt
  have HC : Hid (wrap64 (S.r o.a.toNat + o.im) % 256 = celI S o) := cel_form _ _
  clear h ho
  generalize celI S o = c at *
  generalize S.r o.a.toNat = v at *
  generalize H.mb = q at *
  go_enter Tryd.func81, Tryd.ntmps81
  go_wp2_with fail
  go_quiet (fail)
  go_wp2_with fail
  go_ret
  exact ⟨ret_u8 HC.out, drewN_below (by go_grown) _⟩
set_option maxHeartbeats 2000000 in
theorem result_ok (o : O) (h : MC w t n H S) (ho : OkM o) (hi : ∀ k, I64 (S.r k)) (he : resE S o = 0) : Calls Tryd.prog 84 #[ptr H.mb, o.val] w fun e w' => e = .returned (.int .i64 (resV S o)) ∧ Below w.heap.size w w' := by
  obtain ⟨-, h1, h3⟩ := ho.regs
  have h0 := ho.ok.a0
  have h2 := ho.ok.b0
  have hq := h.lt
  by_cases g1 : o.op = 1
  · have e : resV S o = o.im := by unfold resV; rw [if_pos g1]
    rw [e]
    clear e h ho hi he
    go_enter Tryd.func84, Tryd.ntmps84
    go_wp2_with fail
    go_ret
    exact ⟨rfl, by go_grown⟩
  by_cases g2 : o.op = 15
  · have e : resV S o = S.m (celI S o).toNat := by unfold resV; rw [if_neg g1, if_pos g2]
    rw [e]
    have c0 : 0 ≤ celI S o := by unfold celI; omega
    have c1 : celI S o < 256 := by unfold celI; omega
    have hm := h.m (celI S o).toNat (by omega)
    have HC : Hid (∀ W, Below w.heap.size w W → Calls Tryd.prog 81 #[ptr H.mb, o.val] W fun e w' => e = .returned (.int .u8 (celI S o)) ∧ Below W.heap.size W w') := fun W hW => cellOf_any o (h.fr (Fr.of (X := Non) hW) fun e => e) ho
    have HM : Hid _ := h
    have hb1 : (o.op == 1) = false := by simpa using g1
    have hb2 : (o.op == 15) = true := by simpa using g2
    clear e h ho hi he g1 g2
    generalize hcc : celI S o = c at *
    have HCc : Hid (celI S o = c) := hcc
    clear hcc hm
    go_enter Tryd.func84, Tryd.ntmps84
    go_upto_region 5 with fail
    have HB : Hid (∀ W, Below (w.alloc (.cells o.cells 55)).heap.size (w.alloc (.cells o.cells 55)) W → MC W t n H S ∧ At W w.heap.size o.cells ∧ Below w.heap.size w W) := fun W hW => by
      have hx : Below w.heap.size w W := ((Below.refl _ w).alloc (Nat.le_refl _) _).trans (hW.mono (by simp))
      exact ⟨HM.out.fr (Fr.of (X := Non) hx) fun e => e, (At.new w o.cells 55).below hW (by simp), hx⟩
    generalize (w.alloc (.cells o.cells 55)) = X at *
    have HS : Hid (∀ W, Below X.heap.size X W → MC W t n H S ∧ At W w.heap.size o.cells) := fun W hW => ⟨(HB.out W hW).1, (HB.out W hW).2.1⟩
    refine wp_region_held_drew (S := fun W' => MC W' t n H S ∧ At W' w.heap.size o.cells) (by kernel_rfl) (HS.out _ (drew_up _)) (fun hHeld => ?_)
    refine wpAnyH_take (i := 0) (v := ptr H.mb) rfl (by kernel_rfl) (by kernel_rfl) (by kernel_rfl) (fun _ _ _ h => h) (Or.inl ⟨by rfl, fun w' hSw => by (go_simp)⟩) hHeld ?_
    simp only [Act.put, List.setIfInBounds_toArray, List.set_cons_zero, List.set_cons_succ, List.getElem_cons_zero, List.getElem_toArray]
    refine wpAnyH_take (i := 1) (v := ptr H.mb) rfl (by kernel_rfl) (by kernel_rfl) (by kernel_rfl) (fun _ _ _ h => h) (Or.inl ⟨by rfl, fun w' hSw => by (go_simp)⟩) hHeld ?_
    simp only [Act.put, List.setIfInBounds_toArray, List.set_cons_zero, List.set_cons_succ, List.getElem_cons_zero, List.getElem_cons_succ, List.getElem_toArray]
    refine wpAnyH_take (i := 2) (v := o.val) rfl (by kernel_rfl) (by kernel_rfl) (by kernel_rfl) (fun _ _ _ h => h) (Or.inl ⟨by rfl, fun w' hSw => by (have y0 := hSw.2.c 0 _ rfl; have y1 := hSw.2.c 1 _ rfl; have y2 := hSw.2.c 2 _ rfl; have y3 := hSw.2.c 3 _ rfl; have y4 := hSw.2.c 4 _ rfl; have yl := hSw.2.lt; go_simp)⟩) hHeld ?_
    simp only [Act.put, List.setIfInBounds_toArray, List.set_cons_zero, List.set_cons_succ, List.getElem_cons_zero, List.getElem_cons_succ, List.getElem_toArray]
    refine wpAnyH_take (i := 4) (v := ptr H.mb) rfl (by kernel_rfl) (by kernel_rfl) (by kernel_rfl) (fun _ _ _ h => h) (Or.inl ⟨by rfl, fun w' hSw => by (go_simp)⟩) hHeld ?_
    simp only [Act.put, List.setIfInBounds_toArray, List.set_cons_zero, List.set_cons_succ, List.getElem_cons_zero, List.getElem_cons_succ, List.getElem_toArray]
    refine wpAnyH_take (i := 5) (v := .pointer (some ⟨H.mb, 46, none⟩)) rfl (by kernel_rfl) (by kernel_rfl) (by kernel_rfl) (fun _ _ _ h => h) (Or.inl ⟨by rfl, fun w' hSw => by (go_simp)⟩) hHeld ?_
    simp only [Act.put, List.setIfInBounds_toArray, List.set_cons_zero, List.set_cons_succ, List.getElem_cons_zero, List.getElem_cons_succ, List.getElem_toArray]
    refine wpAnyH_ready (rs := [3]) (by kernel_rfl) (by simp) ?_
    refine AllReadyH.cons rfl (fun K hK => ?_) AllReadyH.nil
    go_simp
    refine Calls.mono (HC.out X.drew (HB.out _ (drew_up X)).2.2) ?_
    rintro e w5 ⟨rfl, h5⟩
    have hs5 := HS.out w5 ((drew_up X).trans (h5.mono (Nat.le_refl _)))
    refine hK.out _ _ hs5 (fun hHeld => ?_)
    clear hK K
    have HY : Hid (Below w.heap.size w w5) := (HB.out w5 ((drew_up X).trans (h5.mono (Nat.le_refl _)))).2.2
    clear h5 hs5
    refine wpAnyH_take (i := 6) (v := .pointer (some ⟨H.mb, 46 + c.toNat, none⟩)) rfl (by kernel_rfl) (by kernel_rfl) (by kernel_rfl) (fun _ _ _ h => h) (Or.inl ⟨by rfl, fun w' hSw => by (go_simp)⟩) hHeld ?_
    simp only [Act.put, List.setIfInBounds_toArray, List.set_cons_zero, List.set_cons_succ, List.getElem_cons_zero, List.getElem_cons_succ, List.getElem_toArray]
    refine wpAnyH_take (i := 7) (v := .int .i64 (S.m c.toNat)) rfl (by kernel_rfl) (by kernel_rfl) (by kernel_rfl) (fun _ _ _ h => h) (Or.inl ⟨by rfl, fun w' hSw => by (have q := hSw.1.m c.toNat (by omega); have ql := hSw.1.lt; go_simp)⟩) hHeld ?_
    simp only [Act.put, List.setIfInBounds_toArray, List.set_cons_zero, List.set_cons_succ, List.getElem_cons_zero, List.getElem_cons_succ, List.getElem_toArray]
    refine wpAnyH_take (i := 8) (v := .int .i64 (S.m c.toNat)) rfl (by kernel_rfl) (by kernel_rfl) (by kernel_rfl) (fun _ _ _ h => h) (Or.inl ⟨by rfl, fun w' hSw => by (go_simp)⟩) hHeld ?_
    simp only [Act.put, List.setIfInBounds_toArray, List.set_cons_zero, List.set_cons_succ, List.getElem_cons_zero, List.getElem_cons_succ, List.getElem_toArray]
    refine wpAnyH_done (by kernel_rfl) ?_ _
    clear hHeld
    go_wp2_with fail
    go_ret
    exact ⟨rfl, HY.out⟩
  · have e : resV S o = rkV o.op (S.r o.a.toNat) (S.r o.b.toNat) := by unfold resV; rw [if_neg g1, if_neg g2]
    have e2 : rkE o.op (S.r o.b.toNat) = 0 := by unfold resE at he; rw [if_neg g1, if_neg g2] at he; exact he
    rw [e]
    have hr := h.r o.a.toNat (by omega)
    have hs := h.r o.b.toNat (by omega)
    have HR : Hid (∀ W, Calls Tryd.prog 24 #[.int .i8 o.op, .int .i64 (S.r o.a.toNat), .int .i64 (S.r o.b.toNat)] W fun e w' => e = .returned (.tuple #[.int .i64 (rkV o.op (S.r o.a.toNat) (S.r o.b.toNat)), .int .i64 0]) ∧ w' = W) := fun W => by
      have := rk_any o.op (S.r o.a.toNat) (S.r o.b.toNat) W (hi _).1 (hi _).2
      rw [e2] at this; exact this
    have hb1 : (o.op == 1) = false := by simpa using g1
    have hb2 : (o.op == 15) = false := by simpa using g2
    clear e e2 h ho hi he
    generalize rkV o.op (S.r o.a.toNat) (S.r o.b.toNat) = x at *
    generalize S.r o.a.toNat = va at *
    generalize S.r o.b.toNat = vb at *
    generalize H.mb = q at *
    go_enter Tryd.func84, Tryd.ntmps84
    go_wp2_with fail
    go_quiet (first | (go_at_call 24; refine Calls.quiet_of_same (HR.out _)))
    go_wp2_with fail
    go_ret
    exact ⟨rfl, drewN_below (by go_grown) _⟩
set_option maxHeartbeats 2000000 in
theorem result_trap (o : O) (h : MC w t n H S) (ho : OkM o) (hi : ∀ k, I64 (S.r k)) (he : resE S o ≠ 0) : Calls Tryd.prog 84 #[ptr H.mb, o.val] w fun e w' => e = .panicked [{ v := .iface 109 (.agg #[.int .i64 (resE S o), .int .i64 0]), recovered := false }] ∧ Below w.heap.size w w' := by
  obtain ⟨-, h1, h3⟩ := ho.regs
  have h0 := ho.ok.a0
  have h2 := ho.ok.b0
  have hq := h.lt
  have g1 : o.op ≠ 1 := fun e => he (by unfold resE; rw [if_pos e])
  have g2 : o.op ≠ 15 := fun e => he (by unfold resE; rw [if_neg g1, if_pos e])
  have e2 : resE S o = rkE o.op (S.r o.b.toNat) := by unfold resE; rw [if_neg g1, if_neg g2]
  have hr := h.r o.a.toNat (by omega)
  have hs := h.r o.b.toNat (by omega)
  have HR : Hid (∀ W, Calls Tryd.prog 24 #[.int .i8 o.op, .int .i64 (S.r o.a.toNat), .int .i64 (S.r o.b.toNat)] W fun e w' => e = .returned (.tuple #[.int .i64 (rkV o.op (S.r o.a.toNat) (S.r o.b.toNat)), .int .i64 (resE S o)]) ∧ w' = W) := fun W => by
    have := rk_any o.op (S.r o.a.toNat) (S.r o.b.toNat) W (hi _).1 (hi _).2
    rw [← e2] at this; exact this
  have hb1 : (o.op == 1) = false := by simpa using g1
  have hb2 : (o.op == 15) = false := by simpa using g2
  have hb3 : (resE S o != 0) = true := by simpa using he
  clear e2 h ho hi he g1 g2
  generalize rkV o.op (S.r o.a.toNat) (S.r o.b.toNat) = x at *
  generalize resE S o = er at *
  generalize S.r o.a.toNat = va at *
  generalize S.r o.b.toNat = vb at *
  generalize H.mb = q at *
  go_enter Tryd.func84, Tryd.ntmps84
  go_wp2_with fail
  go_quiet (first | (go_at_call 24; refine Calls.quiet_of_same (HR.out _)))
  go_wp2_with fail
  exact ⟨rfl, rfl, drewN_below (by go_grown) _⟩
end Go.Proofs.YtldfjlepbbmhnaaDoor.Pp
