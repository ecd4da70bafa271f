/- The document's own Check of a bundle, read off the program by the walk. Conditions: a bundle's lists lie in memory. -/
import Derived.Test.YtckjioiijmmopaaDoorWr
namespace Go.Proofs.YtckjioiijmmopaaDoor.Bu
open Go.ChangeShapes Go.WideShapes Go.ChangeAt Go.RowKit
open _root_.Go.Proofs.YtckjioiijmmopaaDoor.Op
open _root_.Go.Proofs.YtckjioiijmmopaaDoor.Tb (Tab TabAt Bnds four tabAt_new ckR)
open _root_.Go.Proofs.YtckjioiijmmopaaDoor.So
set_option maxRecDepth 20000

set_option maxHeartbeats 4000000 in
theorem rcheck_any (x : Bn) (p : Pb) (t : Tab) (w : World) (hx : BnIn w x p) :
    Calls Tryd.prog 12 #[bval x p, t.val] w fun e w' => e = .returned (.int .i64 (ckX t x)) ∧ Below w.heap.size w w' := by
  have HC : Hid (∀ W, Calls Tryd.prog 20 #[t.val] W fun e w' => e = .returned (.int .i64 (ckR t)) ∧ Below W.heap.size W w') := fun W => Tb.refCheck_any t W
  cases ht : t.ok
  · rw [ck_bad ht] at HC
    rw [show ckX t x = 20 by simp [ckX, ht]]
    clear ht hx
    unfold Tab.val at *
    go_enter Tryd.func12, Tryd.ntmps12
    go_wp2_with (first | (go_at_call 20; refine Calls.mono (HC.out _) ?_; rintro e w1 ⟨rfl, hb⟩; obtain ⟨a1, a2, hb0, hz⟩ := two_new w _ _ _ _ hb; have HB : Hid (Below w.heap.size w w1) := hb0; clear hb hb0 a1 a2))
    go_ret
    exact ⟨rfl, HB.out⟩
  · rw [ck_good ht] at HC
    have HU : Hid (∀ k, k < 4 → t.u k = (U t k : Int) ∧ U t k ≤ 8) := fun k hk => ⟨u_nat ht hk, u_le ht hk⟩
    have HX : Hid (BnIn w x p) := hx
    have HCl : Hid (∀ d W, Calls Tryd.prog 26 #[.int .i8 d] W fun e w' => e = .returned (.tuple #[.int .i64 (clV d), .bool (clB d)]) ∧ Below W.heap.size W w') := fun d W => refClass_any d W
    have HCk : Hid (∀ o W, o.Ok → Calls Tryd.prog 27 #[o.val] W fun e w' => e = .returned (.int .i64 (ckE o)) ∧ Below W.heap.size W w') := fun o W ho => refCheck_any o W ho
    have HR0 : Hid (wfB t x = true → ckX t x = 0) := fun e => by simp [ckX, ht, e]
    have HR1 : Hid (wfB t x = false → ckX t x = 210) := fun e => by simp [ckX, ht, e]
    have HS : Hid (TabAt ((w.alloc (.cells (bcs x p) 36)).alloc (.cells t.cells 26)) (w.heap.size + 1) t ∧ NAt ((w.alloc (.cells (bcs x p) 36)).alloc (.cells t.cells 26)) w.heap.size 0 x p ∧ Below w.heap.size w ((w.alloc (.cells (bcs x p) 36)).alloc (.cells t.cells 26))) := ⟨(two_boxed w x p t 36 26).1, (nat_new w x p 36).below ((Below.refl _ _).alloc (Nat.le_refl _) _) (by simp), (two_boxed w x p t 36 26).2⟩
    clear ht hx
    unfold Tab.val at *
    go_enter Tryd.func12, Tryd.ntmps12
    go_upto_region 5 with (first | (go_at_call 20; refine Calls.mono (HC.out _) ?_; rintro e w1 ⟨rfl, hb⟩; have HS1 : Hid (TabAt w1 (w.heap.size + 1) t ∧ NAt w1 w.heap.size 0 x p ∧ Below w.heap.size w w1 ∧ w.heap.size < w1.heap.size) := ⟨HS.out.1.below hb HS.out.1.lt, HS.out.2.1.below hb (by simp; omega), HS.out.2.2.trans (hb.mono HS.out.2.2.size), (by have := hb.size; simp at this; omega)⟩; clear hb))
    clear HS HC
    go_loopw [6] (fun i wr => ∃ k : Nat, k ≤ 4 ∧ i = .int .i64 k ∧ wfK t x k = true ∧ TabAt wr (w.heap.size + 1) t ∧ NAt wr w.heap.size 0 x p ∧ Below w.heap.size w wr ∧ w.heap.size < wr.heap.size) (fun i _ => 4 - (intOf i).toNat)
    case atStart => exact ⟨0, by omega, rfl, rfl, HS1.out⟩
    case round =>
      rename World => wr
      obtain ⟨k, hk, rfl, h1, h2⟩ := hrel
      have HQ : Hid (wfK t x k = true ∧ TabAt wr (w.heap.size + 1) t ∧ NAt wr w.heap.size 0 x p ∧ Below w.heap.size w wr ∧ w.heap.size < wr.heap.size) := ⟨h1, h2⟩
      clear h1 h2 HS1
      by_cases hlt : k < 4
      · have k0 : (0 : Int) ≤ (k : Int) := by omega
        have k4 : (k : Int) < 4 := by omega
        have hu8 := (HU.out k hlt).2
        have HUk : Hid (t.u k = (U t k : Int)) := (HU.out k hlt).1
        have HCb : Hid (clsB t x k = (decide ((x.l k).length ≤ U t k) && (x.l k).all (isB k))) := rfl
        have HN : Hid (clsB t x k = false → ckX t x = 210) := fun e => HR1.out (wfK_no hlt e)
        have HY : Hid (clsB t x k = true → wfK t x (k + 1) = true) := fun e => by show (wfK t x k && clsB t x k) = true; rw [HQ.out.1, e]; rfl
        have HOp : Hid (∀ W, Below w.heap.size w W → OpsAt W (p.a k) (x.l k)) := fun W hb => (HX.out.o k hlt).below hb
        have hln := (HX.out.o k hlt).len
        have HSt : Hid (TabAt wr (w.heap.size + 1) t ∧ wr.cell? ⟨w.heap.size, k, none⟩ = some (.slice (p.a k) (x.l k).length (p.c k)) ∧ NAt wr w.heap.size 0 x p ∧ Below w.heap.size w wr ∧ w.heap.size < wr.heap.size) := ⟨HQ.out.2.1, by have := HQ.out.2.2.1.c k hlt; rw [Nat.zero_add] at this; exact this, HQ.out.2.2⟩
        clear HQ
        generalize clsB t x k = cb at *
        generalize x.l k = xs at *
        generalize U t k = u at *
        generalize p.a k = pa at *
        generalize p.c k = pc at *
        have tu := HSt.out.1.cu k hlt
        rw [HUk.out] at tu
        have tz := HSt.out.1.lt
        have xc := HSt.out.2.1
        have xz := HSt.out.2.2.2.2
        by_cases hlu : xs.length ≤ u
        · have hlu' : ¬ (u : Int) < (xs.length : Int) := by omega
          have hdd : decide (u < xs.length) = false := decide_eq_false (by omega)
          have hC1 : cb = xs.all (isB k) := by have := HCb.out; rw [decide_eq_true hlu, Bool.true_and] at this; exact this
          subst hC1
          clear HCb
          go_wp2
          go_quiet (fail)
          have HSq : Hid (TabAt (wr.drewN nq) (w.heap.size + 1) t ∧ (wr.drewN nq).cell? ⟨w.heap.size, k, none⟩ = some (.slice pa xs.length pc) ∧ NAt (wr.drewN nq) w.heap.size 0 x p ∧ Below w.heap.size w (wr.drewN nq) ∧ w.heap.size < (wr.drewN nq).heap.size) := ⟨HSt.out.1.below (drewN_bu (Below.refl _ _) nq) HSt.out.1.lt, HSt.out.2.1, HSt.out.2.2.1.below (drewN_bu (Below.refl wr.heap.size wr) nq) HSt.out.2.2.2.2, drewN_bu HSt.out.2.2.2.1 nq, HSt.out.2.2.2.2⟩
          clear tu tz xc xz HSt
          generalize wr.drewN nq = wy at *
          go_upto_region 10 with fail
          clear hdd hlu' hlu
          go_loopw [7] (fun v wz => ∃ i : Nat, i ≤ xs.length ∧ v = .int .i64 i ∧ (xs.take i).all (isB k) = true ∧ TabAt wz (w.heap.size + 1) t ∧ wz.cell? ⟨w.heap.size, k, none⟩ = some (.slice pa xs.length pc) ∧ NAt wz w.heap.size 0 x p ∧ Below w.heap.size w wz ∧ w.heap.size < wz.heap.size) (fun v _ => xs.length - (intOf v).toNat)
          case atStart => exact ⟨0, by omega, rfl, by simp, HSq.out⟩
          case round =>
            rename World => wz
            obtain ⟨i, hi, rfl, h1, h2⟩ := hrel
            have HZ : Hid ((xs.take i).all (isB k) = true ∧ TabAt wz (w.heap.size + 1) t ∧ wz.cell? ⟨w.heap.size, k, none⟩ = some (.slice pa xs.length pc) ∧ NAt wz w.heap.size 0 x p ∧ Below w.heap.size w wz ∧ w.heap.size < wz.heap.size) := ⟨h1, h2⟩
            clear h1 h2 HSq
            have xc := HZ.out.2.2.1
            have xz := HZ.out.2.2.2.2.2
            by_cases hil : i < xs.length
            · have i0 : (0 : Int) ≤ (i : Int) := by omega
              have i1 : (i : Int) < (xs.length : Int) := by omega
              obtain ⟨b, f, rfl, hz, hxc⟩ := (HOp.out wz HZ.out.2.2.2.2.1).is (by omega)
              obtain ⟨q0, q1, q2, q3, q4⟩ := hxc i hil
              have HBz : Hid (∀ W, Below wz.heap.size wz W → OAt W b (f + i * 5) xs[i]) := fun W g => (hxc i hil).below g hz
              have HCk1 : Hid (∀ W, Calls Tryd.prog 27 #[xs[i].val] W fun e w' => e = .returned (.int .i64 (ckE xs[i])) ∧ Below W.heap.size W w') := fun W => HCk.out _ W ((HOp.out wz HZ.out.2.2.2.2.1).ok _ (List.getElem_mem hil))
              have HT : Hid (isB k xs[i] = true → (xs.take (i + 1)).all (isB k) = true) := fun e => by rw [List.take_succ_eq_append_getElem hil, List.all_append, HZ.out.1]; simp [e]
              have HF : Hid (isB k xs[i] = false → ckX t x = 210) := fun e => HN.out (by
                cases hb : xs.all (isB k)
                · rfl
                · rw [List.all_eq_true.1 hb _ (List.getElem_mem hil)] at e; cases e)
              have HB0 : Hid (isB k xs[i] = (clB xs[i].op && (clV xs[i].op == k) && (ckE xs[i] == 0))) := (by rw [ckE0]; rfl : isB k xs[i] = (clB xs[i].op && (clV xs[i].op == k) && (ckE xs[i] == 0)))
              clear hxc
              generalize xs[i] = o at *
              have HCl1 : Hid (∀ W, Calls Tryd.prog 26 #[.int .i8 o.op] W fun e w' => e = .returned (.tuple #[.int .i64 (clV o.op), .bool (clB o.op)]) ∧ Below W.heap.size W w') := fun W => HCl.out _ W
              generalize isB k o = ib at *
              generalize clV o.op = cv at *
              generalize ckE o = ck at *
              cases hB : clB o.op
              · rw [hB] at HB0 HCl1
                have hR := HF.out (by rw [HB0.out]; rfl)
                clear HT HF HB0 hB
                go_wp2_with (first
                  | (go_at_call 26; refine Calls.mono (HCl1.out _) ?_; rintro e w4 ⟨rfl, hb⟩; have HS4 : Hid (Below w.heap.size w w4) := HZ.out.2.2.2.2.1.trans (hb.mono HZ.out.2.2.2.2.1.size); clear hb))
                go_ret
                exact ⟨ret_int hR.symm, HS4.out⟩
              · rw [hB] at HB0 HCl1
                by_cases hcv : cv = k
                · subst hcv
                  by_cases hck : ck = 0
                  · subst hck
                    have HT2 : Hid _ := HT.out (by rw [HB0.out]; simp)
                    clear HT HF HB0 hB
                    go_wp2_with (first
                      | (go_at_call 26; refine Calls.mono (HCl1.out _) ?_; rintro e w4 ⟨rfl, hb⟩; have HS4 : Hid (TabAt w4 (w.heap.size + 1) t ∧ w4.cell? ⟨w.heap.size, k, none⟩ = some (.slice (some ⟨b, f, none⟩) xs.length pc) ∧ NAt w4 w.heap.size 0 x p ∧ Below w.heap.size w w4 ∧ w.heap.size < w4.heap.size) := ⟨HZ.out.2.1.below hb HZ.out.2.1.lt, (by rw [(bcell hb).1 _ _ HZ.out.2.2.2.2.2]; exact HZ.out.2.2.1), HZ.out.2.2.2.1.below hb HZ.out.2.2.2.2.2, HZ.out.2.2.2.2.1.trans (hb.mono HZ.out.2.2.2.2.1.size), Nat.lt_of_lt_of_le HZ.out.2.2.2.2.2 hb.size⟩; obtain ⟨r0, r1, r2, r3, r4⟩ := HBz.out _ hb; have rz : b < w4.heap.size := Nat.lt_of_lt_of_le hz hb.size; clear hb q0 q1 q2 q3 q4 hz xc xz; have yc := HS4.out.2.1; have yz := HS4.out.2.2.2.2)
                      | (go_at_call 27; refine Calls.mono (HCk1.out _) ?_; rintro e w5 ⟨rfl, hb⟩; have HS5 : Hid (TabAt w5 (w.heap.size + 1) t ∧ w5.cell? ⟨w.heap.size, k, none⟩ = some (.slice (some ⟨b, f, none⟩) xs.length pc) ∧ NAt w5 w.heap.size 0 x p ∧ Below w.heap.size w w5 ∧ w.heap.size < w5.heap.size) := ⟨HS4.out.1.below hb HS4.out.1.lt, (by rw [(bcell hb).1 _ _ HS4.out.2.2.2.2]; exact HS4.out.2.1), HS4.out.2.2.1.below hb HS4.out.2.2.2.2, HS4.out.2.2.2.1.trans (hb.mono HS4.out.2.2.2.1.size), Nat.lt_of_lt_of_le HS4.out.2.2.2.2 hb.size⟩; clear hb))
                    go_roundw
                    case rel => exact ⟨i + 1, by omega, by go_num, HT2.out, HS5.out⟩
                    case measure => simp [intOf]; omega
                  · have hck' : (ck != 0) = true := by simpa using hck
                    have hR := HF.out (by rw [HB0.out]; simp [hck])
                    clear HT HF HB0 hB hck
                    go_wp2_with (first
                      | (go_at_call 26; refine Calls.mono (HCl1.out _) ?_; rintro e w4 ⟨rfl, hb⟩; have HS4 : Hid (Below w.heap.size w w4 ∧ w4.cell? ⟨w.heap.size, k, none⟩ = some (.slice (some ⟨b, f, none⟩) xs.length pc) ∧ w.heap.size < w4.heap.size) := ⟨HZ.out.2.2.2.2.1.trans (hb.mono HZ.out.2.2.2.2.1.size), (by rw [(bcell hb).1 _ _ HZ.out.2.2.2.2.2]; exact HZ.out.2.2.1), Nat.lt_of_lt_of_le HZ.out.2.2.2.2.2 hb.size⟩; obtain ⟨r0, r1, r2, r3, r4⟩ := HBz.out _ hb; have rz : b < w4.heap.size := Nat.lt_of_lt_of_le hz hb.size; clear hb q0 q1 q2 q3 q4 hz xc xz; have yc := HS4.out.2.1; have yz := HS4.out.2.2)
                      | (go_at_call 27; refine Calls.mono (HCk1.out _) ?_; rintro e w5 ⟨rfl, hb⟩; have HS5 : Hid (Below w.heap.size w w5) := HS4.out.1.trans (hb.mono HS4.out.1.size); clear hb))
                    go_ret
                    exact ⟨ret_int hR.symm, HS5.out⟩
                · have hcv' : (cv != (k : Int)) = true := by simpa using hcv
                  have hR := HF.out (by rw [HB0.out]; simp [hcv])
                  clear HT HF HB0 hB hcv
                  go_wp2_with (first
                    | (go_at_call 26; refine Calls.mono (HCl1.out _) ?_; rintro e w4 ⟨rfl, hb⟩; have HS4 : Hid (Below w.heap.size w w4) := HZ.out.2.2.2.2.1.trans (hb.mono HZ.out.2.2.2.2.1.size); clear hb))
                  go_ret
                  exact ⟨ret_int hR.symm, HS4.out⟩
            · obtain rfl : i = xs.length := by omega
              have i1 : ¬ (xs.length : Int) < (xs.length : Int) := by omega
              have HY2 : Hid (wfK t x (k + 1) = true) := HY.out (by have := HZ.out.1; rw [List.take_length] at this; exact this)
              go_wp2_with fail
              go_roundw
              case rel => exact ⟨k + 1, by omega, by go_num, HY2.out, HZ.out.2.1, HZ.out.2.2.2⟩
              case measure => simp [intOf]; omega
        · have hlu' : (u : Int) < (xs.length : Int) := by omega
          have hc := HCb.out
          rw [decide_eq_false hlu, Bool.false_and] at hc
          have hR := HN.out hc
          clear HCb HN HY hc hlu
          go_wp2
          go_quiet (fail)
          go_wp2
          go_ret
          exact ⟨ret_int hR.symm, drewN_bu HSt.out.2.2.2.1 nq⟩
      · obtain rfl : k = 4 := by omega
        have hR := HR0.out HQ.out.1
        go_wp2
        go_ret
        exact ⟨ret_int hR.symm, HQ.out.2.2.2.1⟩
end Go.Proofs.YtckjioiijmmopaaDoor.Bu
