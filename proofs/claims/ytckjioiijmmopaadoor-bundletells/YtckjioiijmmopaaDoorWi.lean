/- Whether two lists of bundles are the same (the law's own Same), read off the program by the walk. Conditions: both lie in memory. -/
import Derived.Test.YtckjioiijmmopaaDoorWh
namespace Go.Proofs.YtckjioiijmmopaaDoor.Bu
open Go.ChangeShapes Go.WideShapes Go.ChangeAt Go.RowKit
open _root_.Go.Proofs.YtckjioiijmmopaaDoor.Op
open _root_.Go.Proofs.YtckjioiijmmopaaDoor.Tb (Tab TabAt Bnds four tabAt_new ckR)
open _root_.Go.Proofs.YtckjioiijmmopaaDoor.So
set_option maxRecDepth 20000

theorem o_ne {x y : O} (h : x ≠ y) : x.op ≠ y.op ∨ (x.op = y.op ∧ x.d ≠ y.d) ∨ (x.op = y.op ∧ x.d = y.d ∧ x.a ≠ y.a) ∨ (x.op = y.op ∧ x.d = y.d ∧ x.a = y.a ∧ x.b ≠ y.b) ∨ (x.op = y.op ∧ x.d = y.d ∧ x.a = y.a ∧ x.b = y.b ∧ x.im ≠ y.im) := by
  obtain ⟨a1, a2, a3, a4, a5⟩ := x
  obtain ⟨b1, b2, b3, b4, b5⟩ := y
  simp only [ne_eq, O.mk.injEq] at h ⊢
  omega
/-- The lists of one class, of two bundles in memory. -/
theorem bs_at {W : World} {ao : Option Addr} {ls : List Bn} (h : BsAt W ao ls) {i : Nat} (hi : i < ls.length) {k : Nat} (hk : k < 4) : ∃ b f q c, ao = some ⟨b, f, none⟩ ∧ b < W.heap.size ∧ W.cell? ⟨b, f + i * 4 + k, none⟩ = some (.slice q (ls[i].l k).length c) ∧ OpsAt W q (ls[i].l k) := by
  obtain ⟨b, f, e, z, hx⟩ := h.is (by omega)
  obtain ⟨p, h1, h2⟩ := hx i hi
  exact ⟨b, f, _, _, e, z, h1.c k hk, h2.o k hk⟩
set_option maxHeartbeats 8000000 in
theorem same_any (a b : Option Addr) (c d : Nat) (la lb : List Bn) (r : Bool) (w : World) (h : BsAt w a la) (h' : BsAt w b lb) (hr : r = true ↔ sameL la lb) :
    Calls Tryd.prog 14 #[.slice a la.length c, .slice b lb.length d] w fun e w' => e = .returned (.bool r) ∧ Below w.heap.size w w' := by
  have HA : Hid (BsAt w a la) := h
  have HB : Hid (BsAt w b lb) := h'
  have HR : Hid (r = true ↔ sameL la lb) := hr
  have hl1 := h.len
  have hl2 := h'.len
  clear h h' hr
  by_cases hne : la.length = lb.length
  · have HN : Hid (la.length = lb.length) := hne
    obtain ⟨n, hn⟩ : ∃ n, la.length = n := ⟨_, rfl⟩
    have HNa : Hid (la.length = n ∧ lb.length = n) := ⟨hn, by omega⟩
    rw [show lb.length = n by omega, hn]
    rw [hn] at hl1
    clear hne hn hl2
    go_enter Tryd.func14, Tryd.ntmps14
    go_wp2
    go_loopw [15] (fun v wr => ∃ i : Nat, i ≤ n ∧ v = .int .i64 i ∧ (∀ i' (h1 : i' < la.length) (h2 : i' < lb.length), i' < i → ∀ k, k < 4 → la[i'].l k = lb[i'].l k) ∧ Below w.heap.size w wr) (fun v _ => n - (intOf v).toNat)
    case atStart => exact ⟨0, by omega, rfl, fun i' _ _ hi => absurd hi (by omega), Below.refl _ _⟩
    case round =>
      rename World => wr
      obtain ⟨i, hi, rfl, he, hbw⟩ := hrel
      have HE : Hid ((∀ i' (h1 : i' < la.length) (h2 : i' < lb.length), i' < i → ∀ k, k < 4 → la[i'].l k = lb[i'].l k) ∧ Below w.heap.size w wr) := ⟨he, hbw⟩
      clear he hbw
      by_cases hin : i < n
      · have hia : i < la.length := by rw [HNa.out.1]; exact hin
        have hib : i < lb.length := by rw [HNa.out.2]; exact hin
        have i0 : (0 : Int) ≤ (i : Int) := by omega
        have i1 : (i : Int) < (n : Int) := by omega
        go_wp2
        go_loopw [18] (fun v wx => ∃ k : Nat, k ≤ 4 ∧ v = .int .i64 k ∧ (∀ k', k' < k → la[i].l k' = lb[i].l k') ∧ Below w.heap.size w wx) (fun v _ => 4 - (intOf v).toNat)
        case atStart => exact ⟨0, by omega, rfl, fun k' hk => absurd hk (by omega), HE.out.2⟩
        case round =>
          rename World => wx
          obtain ⟨k, hk, rfl, he, hbw⟩ := hrel
          have HX : Hid ((∀ k', k' < k → la[i].l k' = lb[i].l k') ∧ Below w.heap.size w wx) := ⟨he, hbw⟩
          clear he hbw
          by_cases hk4 : k < 4
          · have k0 : (0 : Int) ≤ (k : Int) := by omega
            have k1 : (k : Int) < 4 := by omega
            obtain ⟨b1, f1, q1, c1, rfl, z1, x1, y1⟩ := bs_at (HA.out.below HX.out.2) hia hk4
            obtain ⟨b2, f2, q2, c2, rfl, z2, x2, y2⟩ := bs_at (HB.out.below HX.out.2) hib hk4
            have HNo : Hid (la[i].l k ≠ lb[i].l k → r = false) := fun e => by
              cases r
              · rfl
              · exact absurd ((HR.out.1 rfl).2 i hia hib k hk4) e
            have HYe : Hid (la[i].l k = lb[i].l k → ∀ k', k' < k + 1 → la[i].l k' = lb[i].l k') := fun e k' hk' => by
              by_cases e' : k' = k
              · rw [e']; exact e
              · exact HX.out.1 k' (by omega)
            generalize hxs : la[i].l k = xs at *
            generalize hys : lb[i].l k = ys at *
            have HO : Hid (OpsAt wx q1 xs ∧ OpsAt wx q2 ys) := ⟨y1, y2⟩
            have hxl := y1.len
            have hyl := y2.len
            clear y1 y2
            by_cases hlen : xs.length = ys.length
            · have HLe : Hid (xs.length = ys.length) := hlen
              rw [← hlen] at x2 hyl
              clear hlen
              go_wp2
              go_quiet (fail)
              have HOq : Hid (Below w.heap.size w (wx.drewN nq) ∧ OpsAt (wx.drewN nq) q1 xs ∧ OpsAt (wx.drewN nq) q2 ys) := ⟨drewN_bu HX.out.2 nq, HO.out.1.below (drewN_bu (Below.refl _ _) nq), HO.out.2.below (drewN_bu (Below.refl _ _) nq)⟩
              have x1' : (wx.drewN nq).cell? ⟨b1, f1 + i * 4 + k, none⟩ = some (.slice q1 xs.length c1) := x1
              have x2' : (wx.drewN nq).cell? ⟨b2, f2 + i * 4 + k, none⟩ = some (.slice q2 xs.length c2) := x2
              have z1' : b1 < (wx.drewN nq).heap.size := z1
              have z2' : b2 < (wx.drewN nq).heap.size := z2
              clear x1 x2 z1 z2
              generalize wx.drewN nq = wy at *
              go_upto_region 12 with fail
              have HC : Hid (wy.cell? ⟨b1, f1 + i * 4 + k, none⟩ = some (.slice q1 xs.length c1) ∧ wy.cell? ⟨b2, f2 + i * 4 + k, none⟩ = some (.slice q2 xs.length c2) ∧ b1 < wy.heap.size ∧ b2 < wy.heap.size) := ⟨x1', x2', z1', z2'⟩
              clear x1' x2' z1' z2'
              go_loopw [46] (fun v wz => ∃ j : Nat, j ≤ xs.length ∧ v = .int .i64 j ∧ (∀ j' (h1 : j' < xs.length) (h2 : j' < ys.length), j' < j → xs[j'] = ys[j']) ∧ Below wy.heap.size wy wz) (fun v _ => xs.length - (intOf v).toNat)
              case atStart => exact ⟨0, by omega, rfl, fun j' _ _ hj => absurd hj (by omega), Below.refl _ _⟩
              case round =>
                rename World => wz
                obtain ⟨j, hj, rfl, he, hbz⟩ := hrel
                have HZ : Hid ((∀ j' (h1 : j' < xs.length) (h2 : j' < ys.length), j' < j → xs[j'] = ys[j']) ∧ Below wy.heap.size wy wz) := ⟨he, hbz⟩
                clear he hbz
                by_cases hjl : j < xs.length
                · have hjy : j < ys.length := by have := HLe.out; omega
                  have j0 : (0 : Int) ≤ (j : Int) := by omega
                  have j1 : (j : Int) < (xs.length : Int) := by omega
                  have d1 : wz.cell? ⟨b1, f1 + i * 4 + k, none⟩ = some (.slice q1 xs.length c1) := by rw [(bcell HZ.out.2).1 _ _ HC.out.2.2.1]; exact HC.out.1
                  have d2 : wz.cell? ⟨b2, f2 + i * 4 + k, none⟩ = some (.slice q2 xs.length c2) := by rw [(bcell HZ.out.2).1 _ _ HC.out.2.2.2]; exact HC.out.2.1
                  have l1 : b1 < wz.heap.size := Nat.lt_of_lt_of_le HC.out.2.2.1 HZ.out.2.size
                  have l2 : b2 < wz.heap.size := Nat.lt_of_lt_of_le HC.out.2.2.2 HZ.out.2.size
                  obtain ⟨g1, e1, rfl, m1, o1⟩ := (HOq.out.2.1.below HZ.out.2).is (by omega)
                  obtain ⟨g2, e2, rfl, m2, o2⟩ := (HOq.out.2.2.below HZ.out.2).is (by omega)
                  obtain ⟨s0, s1, s2, s3, s4⟩ := o1 j hjl
                  obtain ⟨t0, t1, t2, t3, t4⟩ := o2 j hjy
                  have HNj : Hid (xs[j] ≠ ys[j] → r = false) := fun e => HNo.out fun e' => e (by simp [e'])
                  have HYj : Hid (xs[j] = ys[j] → ∀ j' (h1 : j' < xs.length) (h2 : j' < ys.length), j' < j + 1 → xs[j'] = ys[j']) := fun e j' h1 h2 hj' => by
                    by_cases e' : j' = j
                    · subst e'; exact e
                    · exact HZ.out.1 j' h1 h2 (by omega)
                  clear o1 o2
                  generalize xs[j] = x at *
                  generalize ys[j] = y at *
                  by_cases hxy : x = y
                  · have HY2 : Hid (∀ j' (h1 : j' < xs.length) (h2 : j' < ys.length), j' < j + 1 → xs[j'] = ys[j']) := HYj.out hxy
                    subst hxy
                    clear HNj HYj
                    go_wp2
                    go_quiet (fail)
                    go_wp2
                    go_roundw
                    case rel => exact ⟨j + 1, by omega, by go_num, HY2.out, drewN_bu HZ.out.2 nq⟩
                    case measure => simp [intOf]; omega
                  · have hR := HNj.out hxy
                    have hd := o_ne hxy
                    clear HNj HYj hxy
                    obtain ⟨xo, xd, xa, xb, xi⟩ := x
                    obtain ⟨yo, yd, ya, yb, yi⟩ := y
                    simp only at s0 s1 s2 s3 s4 t0 t1 t2 t3 t4 hd
                    rcases hd with hd | ⟨rfl, hd⟩ | ⟨rfl, rfl, hd⟩ | ⟨rfl, rfl, rfl, hd⟩ | ⟨rfl, rfl, rfl, rfl, hd⟩
                    all_goals
                      have hd' := beq_eq_false_iff_ne.2 hd
                      clear hd
                      go_wp2
                      go_quiet (fail)
                      go_wp2
                      go_ret
                      exact ⟨ret_bool hR.symm, HOq.out.1.trans ((drewN_bu HZ.out.2 nq).mono HOq.out.1.size)⟩
                · obtain rfl : j = xs.length := by omega
                  have hE : xs = ys := List.ext_getElem HLe.out fun j' h1 h2 => HZ.out.1 j' h1 h2 h1
                  have HY2 : Hid (∀ k', k' < k + 1 → la[i].l k' = lb[i].l k') := fun k' hk' => HYe.out hE k' hk'
                  clear hE
                  go_wp2
                  go_roundw
                  case rel => exact ⟨k + 1, by omega, by go_num, HY2.out, HOq.out.1.trans (HZ.out.2.mono HOq.out.1.size)⟩
                  case measure => simp [intOf]; omega
            · have hR := HNo.out (fun e => hlen (by rw [e]))
              have hl' : ((xs.length : Int) != (ys.length : Int)) = true := by simp; omega
              go_wp2
              go_quiet (fail)
              go_wp2
              go_ret
              exact ⟨ret_bool hR.symm, drewN_bu HX.out.2 nq⟩
          · obtain rfl : k = 4 := by omega
            go_wp2
            go_roundw
            case rel => exact ⟨i + 1, by omega, by go_num, fun i' h1 h2 hi' k' hk' => by
              by_cases e : i' = i
              · subst e; exact HX.out.1 k' hk'
              · exact HE.out.1 i' h1 h2 (by omega) k' hk', HX.out.2⟩
            case measure => simp [intOf]; omega
      · obtain rfl : i = n := by omega
        have hR : r = true := HR.out.2 ⟨HN.out, fun i' h1 h2 k' hk' => HE.out.1 i' h1 h2 (by have := HNa.out.1; omega) k' hk'⟩
        go_wp2
        go_ret
        exact ⟨ret_bool hR.symm, HE.out.2⟩
  · have hR : r = false := by
      cases r
      · rfl
      · exact absurd (HR.out.1 rfl).1 hne
    have hne' : ((la.length : Int) != (lb.length : Int)) = true := by simp; omega
    go_enter Tryd.func14, Tryd.ntmps14
    go_wp2
    go_ret
    exact ⟨ret_bool hR.symm, Below.refl _ _⟩
end Go.Proofs.YtckjioiijmmopaaDoor.Bu
