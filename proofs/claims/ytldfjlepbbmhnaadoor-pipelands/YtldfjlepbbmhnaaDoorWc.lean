/- Whether a bundle is well formed, and Check, read off the program by the walk. Conditions: a bundle's lists lie in memory; the table's bounds too. -/
import Derived.Test.YtldfjlepbbmhnaaDoorWb
namespace Go.Proofs.YtldfjlepbbmhnaaDoor.Bu
open Go.ChangeShapes Go.WideShapes Go.ChangeAt Go.RowKit
open _root_.Go.Proofs.YtldfjlepbbmhnaaDoor.Op
open _root_.Go.Proofs.YtldfjlepbbmhnaaDoor.Tb (Tab TabAt Bnds four tabAt_new ckR)
set_option maxRecDepth 20000

/-- A bundle and a table, boxed. -/
theorem two_boxed (w : World) (x : Bn) (p : Pb) (t : Tab) (ty ty' : TypeId) : TabAt ((w.alloc (.cells (bcs x p) ty)).alloc (.cells t.cells ty')) (w.heap.size + 1) t ∧ Below w.heap.size w ((w.alloc (.cells (bcs x p) ty)).alloc (.cells t.cells ty')) := by
  have h := tabAt_new (w.alloc (.cells (bcs x p) ty)) t ty'
  rw [show (w.alloc (.cells (bcs x p) ty)).heap.size = w.heap.size + 1 by simp] at h
  exact ⟨h, by go_grown⟩
set_option maxHeartbeats 1000000 in
theorem wellFormed_any (x : Bn) (p : Pb) (t : Tab) (w : World) (hx : BnIn w x p) (ht : t.ok = true) :
    Calls Tryd.prog 36 #[bval x p, t.val] w fun e w' => e = .returned (.bool (wfB t x)) ∧ Below w.heap.size w w' := by
  have HU : Hid (∀ k, k < 4 → t.u k = (U t k : Int) ∧ U t k ≤ 8) := fun k hk => ⟨u_nat ht hk, u_le ht hk⟩
  have HI : Hid (∀ k : Nat, k < 4 → ∀ w, (Instr.index 61 (bval x p) (.int .i64 k)).run Tryd.prog w = .ok (.slice (p.a k) (x.l k).length (p.c k)) w) := fun k hk w => idx34 x p k hk w
  have HA : Hid (∀ k : Nat, k < 4 → ∀ W, Below w.heap.size w W → Calls Tryd.prog 56 #[.slice (p.a k) (x.l k).length (p.c k), .int .i64 k] W fun e w' => e = .returned (.bool ((x.l k).all (isB k))) ∧ Below W.heap.size W w') := fun k hk W hb => allOf_any _ _ _ _ W ((hx.o k hk).below hb)
  have HL : Hid (∀ k, k < 4 → (x.l k).length ≤ 8796093022208) := fun k hk => (hx.o k hk).len
  have HS : Hid (TabAt ((w.alloc (.cells (bcs x p) 63)).alloc (.cells t.cells 25)) (w.heap.size + 1) t ∧ Below w.heap.size w ((w.alloc (.cells (bcs x p) 63)).alloc (.cells t.cells 25))) := two_boxed w x p t 63 25
  clear hx ht
  unfold Tab.val at *
  go_enter Tryd.func36, Tryd.ntmps36
  go_upto_region 2 with fail
  generalize ((w.alloc (.cells (bcs x p) 63)).alloc (.cells t.cells 25)) = W0 at *
  go_loopw [9] (fun i wr => ∃ k : Nat, k ≤ 4 ∧ i = .int .i64 k ∧ wfK t x k = true ∧ TabAt wr (w.heap.size + 1) t ∧ Below w.heap.size w wr) (fun i _ => 4 - (intOf i).toNat)
  case atStart => exact ⟨0, by omega, rfl, rfl, HS.out⟩
  case round =>
    rename World => wr
    obtain ⟨k, hk, rfl, h1, h2, h3⟩ := hrel
    have HQ : Hid (wfK t x k = true ∧ TabAt wr (w.heap.size + 1) t ∧ Below w.heap.size w wr) := ⟨h1, h2, h3⟩
    clear h1 h2 h3 HS
    by_cases hlt : k < 4
    · have hi := HI.out k hlt
      have tu := HQ.out.2.1.cu k hlt
      rw [(HU.out k hlt).1] at tu
      have tz := HQ.out.2.1.lt
      have hu8 := (HU.out k hlt).2
      have hln := HL.out k hlt
      have k0 : (0 : Int) ≤ (k : Int) := by omega
      have k4 : (k : Int) < 4 := by omega
      have HA1 : Hid (∀ W, Below w.heap.size w W → Calls Tryd.prog 56 #[.slice (p.a k) (x.l k).length (p.c k), .int .i64 k] W fun e w' => e = .returned (.bool ((x.l k).all (isB k))) ∧ Below W.heap.size W w') := HA.out k hlt
      have HC : Hid (clsB t x k = (decide ((x.l k).length ≤ U t k) && (x.l k).all (isB k))) := rfl
      have HN : Hid (clsB t x k = false → wfB t x = false) := fun e => wfK_no hlt e
      have HY : Hid (clsB t x k = true → wfK t x (k + 1) = true) := fun e => by show (wfK t x k && clsB t x k) = true; rw [HQ.out.1, e]; rfl
      generalize clsB t x k = cb at *
      generalize (x.l k).all (isB k) = ab at *
      generalize (x.l k).length = n at *
      generalize U t k = u at *
      generalize p.a k = pa at *
      generalize p.c k = pc at *
      by_cases hlu : n ≤ u
      · have hlu' : (n : Int) ≤ (u : Int) := by omega
        have hc := HC.out
        rw [decide_eq_true hlu, Bool.true_and] at hc
        cases ab
        · have hR := HN.out hc
          clear HC HN HY hc hlu
          go_wp2_with (first | (go_at_call 56; refine Calls.mono (HA1.out _ HQ.out.2.2) ?_; rintro e w1 ⟨rfl, hb⟩; have HB : Hid (Below w.heap.size w w1) := HQ.out.2.2.trans (hb.mono HQ.out.2.2.size); clear hb))
          go_ret
          exact ⟨ret_bool hR.symm, HB.out⟩
        · have HY2 : Hid _ := HY.out hc
          clear HC HN HY hc hlu
          go_wp2_with (first | (go_at_call 56; refine Calls.mono (HA1.out _ HQ.out.2.2) ?_; rintro e w1 ⟨rfl, hb⟩; have HB : Hid (TabAt w1 (w.heap.size + 1) t ∧ Below w.heap.size w w1) := ⟨HQ.out.2.1.below hb HQ.out.2.1.lt, HQ.out.2.2.trans (hb.mono HQ.out.2.2.size)⟩; clear hb))
          go_roundw
          case rel => exact ⟨k + 1, by omega, by go_num, HY2.out, HB.out⟩
          case measure => simp [intOf]; omega
      · have hlu' : (u : Int) < (n : Int) := by omega
        have hc := HC.out
        rw [decide_eq_false hlu, Bool.false_and] at hc
        have hR := HN.out hc
        clear HC HN HY hc hlu
        go_wp2_with fail
        go_ret
        exact ⟨ret_bool hR.symm, HQ.out.2.2⟩
    · obtain rfl : k = 4 := by omega
      go_wp2
      go_ret
      exact ⟨ret_bool HQ.out.1.symm, HQ.out.2.2⟩

theorem ck_bad {t : Tab} (h : t.ok = false) : ckR t = 20 := by unfold ckR; rw [h]; rfl
theorem ck_good {t : Tab} (h : t.ok = true) : ckR t = 0 := by unfold ckR; rw [h]; rfl
end Go.Proofs.YtldfjlepbbmhnaaDoor.Bu
