/- Whether a bundle is well formed, and Check, read off the program by the walk. Conditions: a bundle's lists lie in memory; the table's bounds too. -/
import Derived.Test.YtckjioiijmmopaaDoorWb
namespace Go.Proofs.YtckjioiijmmopaaDoor.Bu
open Go.ChangeShapes Go.WideShapes Go.ChangeAt Go.RowKit
open _root_.Go.Proofs.YtckjioiijmmopaaDoor.Op
open _root_.Go.Proofs.YtckjioiijmmopaaDoor.Tb (Tab TabAt Bnds four tabAt_new ckR)
set_option maxRecDepth 20000

theorem tab_next {W W' : World} {b : Nat} {t : Tab} (h : TabAt W b t) (g : Below W.heap.size W W') : TabAt W' b t := h.below g h.lt
/-- A bundle and a table, boxed. -/
theorem two_boxed (w : World) (x : Bn) (p : Pb) (t : Tab) (ty ty' : TypeId) : TabAt ((w.alloc (.cells (bcs x p) ty)).alloc (.cells t.cells ty')) (w.heap.size + 1) t ∧ Below w.heap.size w ((w.alloc (.cells (bcs x p) ty)).alloc (.cells t.cells ty')) := by
  have h := tabAt_new (w.alloc (.cells (bcs x p) ty)) t ty'
  rw [show (w.alloc (.cells (bcs x p) ty)).heap.size = w.heap.size + 1 by simp] at h
  exact ⟨h, by go_grown⟩
set_option maxHeartbeats 1000000 in
theorem wellFormed_any (x : Bn) (p : Pb) (t : Tab) (w : World) (hx : BnIn w x p) (ht : t.ok = true) :
    Calls Tryd.prog 18 #[bval x p, t.val] w fun e w' => e = .returned (.bool (wfB t x)) ∧ Below w.heap.size w w' := by
  have HU : Hid (∀ k, k < 4 → t.u k = (U t k : Int) ∧ U t k ≤ 8) := fun k hk => ⟨u_nat ht hk, u_le ht hk⟩
  have HI : Hid (∀ k : Nat, k < 4 → ∀ w, (Instr.index 34 (bval x p) (.int .i64 k)).run Tryd.prog w = .ok (.slice (p.a k) (x.l k).length (p.c k)) w) := fun k hk w => idx34 x p k hk w
  have HA : Hid (∀ k : Nat, k < 4 → ∀ W, Below w.heap.size w W → Calls Tryd.prog 29 #[.slice (p.a k) (x.l k).length (p.c k), .int .i64 k] W fun e w' => e = .returned (.bool ((x.l k).all (isB k))) ∧ Below W.heap.size W w') := fun k hk W hb => allOf_any _ _ _ _ W ((hx.o k hk).below hb)
  have HL : Hid (∀ k, k < 4 → (x.l k).length ≤ 8796093022208) := fun k hk => (hx.o k hk).len
  have HS : Hid (TabAt ((w.alloc (.cells (bcs x p) 36)).alloc (.cells t.cells 26)) (w.heap.size + 1) t ∧ Below w.heap.size w ((w.alloc (.cells (bcs x p) 36)).alloc (.cells t.cells 26))) := two_boxed w x p t 36 26
  clear hx ht
  unfold Tab.val at *
  go_enter Tryd.func18, Tryd.ntmps18
  go_upto_region 2 with fail
  generalize ((w.alloc (.cells (bcs x p) 36)).alloc (.cells t.cells 26)) = W0 at *
  go_loopw [9] (fun i wr => ∃ k : Nat, k ≤ 4 ∧ i = .int .i64 k ∧ wfK t x k = true ∧ TabAt wr (w.heap.size + 1) t ∧ Below w.heap.size w wr) (fun i _ => 4 - (intOf i).toNat)
  case atStart => exact ⟨0, by omega, rfl, rfl, HS.out⟩
  case round =>
    rename World => wr
    obtain ⟨k, hk, rfl, h1, h2, h3⟩ := hrel
    have HQ : Hid (wfK t x k = true ∧ TabAt wr (w.heap.size + 1) t ∧ Below w.heap.size w wr) := ⟨h1, h2, h3⟩
    clear h1 h2 h3 HS
    by_cases hlt : k < 4
    · have hi := HI.out k hlt
      have tu := HQ.out.2.1.cu k hlt
      rw [(HU.out k hlt).1] at tu
      have tz := HQ.out.2.1.lt
      have hu8 := (HU.out k hlt).2
      have hln := HL.out k hlt
      have k0 : (0 : Int) ≤ (k : Int) := by omega
      have k4 : (k : Int) < 4 := by omega
      have HA1 : Hid (∀ W, Below w.heap.size w W → Calls Tryd.prog 29 #[.slice (p.a k) (x.l k).length (p.c k), .int .i64 k] W fun e w' => e = .returned (.bool ((x.l k).all (isB k))) ∧ Below W.heap.size W w') := HA.out k hlt
      have HC : Hid (clsB t x k = (decide ((x.l k).length ≤ U t k) && (x.l k).all (isB k))) := rfl
      have HN : Hid (clsB t x k = false → wfB t x = false) := fun e => wfK_no hlt e
      have HY : Hid (clsB t x k = true → wfK t x (k + 1) = true) := fun e => by show (wfK t x k && clsB t x k) = true; rw [HQ.out.1, e]; rfl
      generalize clsB t x k = cb at *
      generalize (x.l k).all (isB k) = ab at *
      generalize (x.l k).length = n at *
      generalize U t k = u at *
      generalize p.a k = pa at *
      generalize p.c k = pc at *
      by_cases hlu : n ≤ u
      · have hlu' : (n : Int) ≤ (u : Int) := by omega
        have hc := HC.out
        rw [decide_eq_true hlu, Bool.true_and] at hc
        cases ab
        · have hR := HN.out hc
          clear HC HN HY hc hlu
          go_wp2_with (first | (go_at_call 29; refine Calls.mono (HA1.out _ HQ.out.2.2) ?_; rintro e w1 ⟨rfl, hb⟩; have HB : Hid (Below w.heap.size w w1) := HQ.out.2.2.trans (hb.mono HQ.out.2.2.size); clear hb))
          go_ret
          exact ⟨ret_bool hR.symm, HB.out⟩
        · have HY2 : Hid _ := HY.out hc
          clear HC HN HY hc hlu
          go_wp2_with (first | (go_at_call 29; refine Calls.mono (HA1.out _ HQ.out.2.2) ?_; rintro e w1 ⟨rfl, hb⟩; have HB : Hid (TabAt w1 (w.heap.size + 1) t ∧ Below w.heap.size w w1) := ⟨HQ.out.2.1.below hb HQ.out.2.1.lt, HQ.out.2.2.trans (hb.mono HQ.out.2.2.size)⟩; clear hb))
          go_roundw
          case rel => exact ⟨k + 1, by omega, by go_num, HY2.out, HB.out⟩
          case measure => simp [intOf]; omega
      · have hlu' : (u : Int) < (n : Int) := by omega
        have hc := HC.out
        rw [decide_eq_false hlu, Bool.false_and] at hc
        have hR := HN.out hc
        clear HC HN HY hc hlu
        go_wp2_with fail
        go_ret
        exact ⟨ret_bool hR.symm, HQ.out.2.2⟩
    · obtain rfl : k = 4 := by omega
      go_wp2
      go_ret
      exact ⟨ret_bool HQ.out.1.symm, HQ.out.2.2⟩

def ckX (t : Tab) (x : Bn) : Int := if t.ok then (if wfB t x then 0 else 210) else 20
theorem ck_bad {t : Tab} (h : t.ok = false) : ckR t = 20 := by unfold ckR; rw [h]; rfl
theorem ck_good {t : Tab} (h : t.ok = true) : ckR t = 0 := by unfold ckR; rw [h]; rfl
set_option maxHeartbeats 1000000 in
theorem bcheck_any (x : Bn) (p : Pb) (t : Tab) (w : World) (hx : BnIn w x p) (hG : Bnds w) :
    Calls Tryd.prog 11 #[bval x p, t.val] w fun e w' => e = .returned (.int .i64 (ckX t x)) ∧ Below w.heap.size w w' := by
  have HC : Hid (∀ W, Below w.heap.size w W → Calls Tryd.prog 17 #[t.val] W fun e w' => e = .returned (.int .i64 (ckR t)) ∧ Below W.heap.size W w') := fun W hb => Tb.check_any t W (hG.below hb hG.big)
  have HN : Hid (NAt (w.alloc (.cells (bcs x p) 36)) w.heap.size 0 x p) := nat_new w x p 36
  cases ht : t.ok
  · rw [ck_bad ht] at HC
    rw [show ckX t x = 20 by simp [ckX, ht]]
    clear ht hx hG
    unfold Tab.val at *
    go_enter Tryd.func11, Tryd.ntmps11
    go_wp2_with (first | (go_at_call 17; refine Calls.mono (HC.out _ (by go_grown)) ?_; rintro e w1 ⟨rfl, hb⟩; obtain ⟨a1, a2, hb0, hz⟩ := two_new w _ _ _ _ hb; have HB : Hid (Below w.heap.size w w1) := hb0; clear hb hb0 a1 a2))
    go_ret
    exact ⟨rfl, HB.out⟩
  · rw [ck_good ht] at HC
    have HW : Hid (∀ W, Below w.heap.size w W → Calls Tryd.prog 18 #[bval x p, t.val] W fun e w' => e = .returned (.bool (wfB t x)) ∧ Below W.heap.size W w') := fun W hb => wellFormed_any x p t W (hx.below hb) ht
    have e : ckX t x = if wfB t x then 0 else 210 := by simp [ckX, ht]
    rw [e]
    clear e ht hx hG
    unfold Tab.val at *
    generalize wfB t x = R at *
    cases R
    all_goals
      go_enter Tryd.func11, Tryd.ntmps11
      go_wp2_with (first | (go_at_call 17; refine Calls.mono (HC.out _ (by go_grown)) ?_; rintro e w1 ⟨rfl, hb⟩; obtain ⟨a1, a2, hb0, hz⟩ := two_new w _ _ _ _ hb; have HB : Hid (Below w.heap.size w w1) := hb0; have x0 := a1.c 0 _ rfl; have x1 := a1.c 1 _ rfl; have x2 := a1.c 2 _ rfl; have x3 := a1.c 3 _ rfl; have c0 := a2.c 0 _ rfl; have c1 := a2.c 1 _ rfl; have c2 := a2.c 2 _ rfl; have c3 := a2.c 3 _ rfl; have c4 := a2.c 4 _ rfl; have c5 := a2.c 5 _ rfl; have c6 := a2.c 6 _ rfl; have c7 := a2.c 7 _ rfl; have c8 := a2.c 8 _ rfl; have c9 := a2.c 9 _ rfl; have c10 := a2.c 10 _ rfl; have c11 := a2.c 11 _ rfl; have c12 := a2.c 12 _ rfl; clear hb hb0 a1 a2) | (go_at_call 18; refine Calls.mono (HW.out _ HB.out) ?_; rintro e w2 ⟨rfl, hb⟩; have HB2 : Hid (Below w.heap.size w w2) := HB.out.trans (hb.mono HB.out.size); clear hb))
      go_ret
      exact ⟨rfl, HB2.out⟩
end Go.Proofs.YtckjioiijmmopaaDoor.Bu
