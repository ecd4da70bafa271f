/- The document's answer on a program (Check): read off the program by the walk. Conditions: the program lies in memory. -/
import Derived.Test.YtddcndlogoajkaaGreatDoorQPk
import Derived.Test.YtddcndlogoajkaaGreatDoorJa
namespace Go.Proofs.YtddcndlogoajkaaGreatDoor.L8.Op
open Go.ChangeShapes Go.WideShapes Go.ChangeAt Go.RowKit
set_option maxRecDepth 20000

set_option maxHeartbeats 1000000 in
theorem refOp_any (o : O) (w : World) (ho : o.Ok) : Calls Tryz.prog 66 #[o.val] w fun e w' => e = .returned (.bool (okP o)) ∧ Below w.heap.size w w' := by
  have HC : Hid (∀ w, Calls Tryz.prog 74 #[o.val] w fun e w' => e = .returned (.int .i64 (ckE o)) ∧ Below w.heap.size w w') := fun w => refCheck_any o w ho
  clear ho
  by_cases g1 : o.op < 1
  · have e1 : okP o = false := by simp [okP]; omega
    rw [e1]
    go_enter Tryz.func66, Tryz.ntmps66
    go_wp2
    go_ret
    exact ⟨rfl, by go_grown⟩
  · by_cases g2 : 17 < o.op
    · have e1 : okP o = false := by simp [okP]; omega
      rw [e1]
      go_enter Tryz.func66, Tryz.ntmps66
      go_wp2
      go_ret
      exact ⟨rfl, by go_grown⟩
    · have e1 : okP o = okO o := by
        have a : decide (1 ≤ o.op) = true := by simp; omega
        have b : decide (o.op ≤ 17) = true := by simp; omega
        simp only [okP, a, b, Bool.true_and]
      have e2 : ckE o = if okO o then 0 else 30 := rfl
      rw [e1]
      rw [e2] at HC
      clear e1 e2
      cases h3 : okO o
      all_goals
        rw [h3] at HC
        clear h3
        go_enter Tryz.func66, Tryz.ntmps66
        go_wp2_with (first | (go_at_call 74; refine Calls.mono (HC.out _) ?_; rintro e w1 ⟨rfl, hb⟩; obtain ⟨-, hb0, -⟩ := one_new w _ _ hb; have HB : Hid _ := hb0; clear hb hb0))
        go_ret
        exact ⟨rfl, HB.out⟩

set_option maxHeartbeats 1000000 in
theorem refAll_any (ao : Option Addr) (cap : Nat) (xs : List O) (w : World) (h : OpsAt w ao xs) :
    Calls Tryz.prog 39 #[.slice ao xs.length cap] w fun e w' => e = .returned (.bool (allB xs)) ∧ Below w.heap.size w w' := by
  have HP : Hid _ := h
  have hlen := h.len
  clear h
  go_enter Tryz.func39, Tryz.ntmps39
  go_wp2
  go_loopw [3] (fun i wr => ∃ k : Nat, k ≤ xs.length ∧ i = .int .i64 k ∧ (∀ (j : Nat) (hj : j < xs.length), j < k → okP xs[j] = true) ∧ Below w.heap.size w wr) (fun i _ => xs.length - (intOf i).toNat)
  case atStart => exact ⟨0, by omega, rfl, fun j _ hj => by omega, Below.refl _ _⟩
  case round =>
    rename_i wr
    obtain ⟨k, hk, rfl, hok, hbw⟩ := hrel
    by_cases hlt : k < xs.length
    · obtain ⟨b, f, rfl, hz, hx⟩ := HP.out.is (by omega)
      obtain ⟨c0, c1, c2, c3, c4⟩ := (hx k hlt).below hbw hz
      have ho := HP.out.ok xs[k] (List.getElem_mem hlt)
      have HC : Hid (∀ w, Calls Tryz.prog 66 #[xs[k].val] w fun e w' => e = .returned (.bool (okP xs[k])) ∧ Below w.heap.size w w') := fun w => refOp_any xs[k] w ho
      have HK : Hid _ := hok
      have HB : Hid _ := hbw
      clear hx HP hok hbw ho
      generalize hg : xs[k] = o at *
      have HO : Hid (xs[k] = o) := hg
      clear hg
      cases h1 : okP o
      · rw [h1] at HC
        have HN : Hid _ := h1
        clear h1
        go_wp2_with (first | (go_at_call 66; refine Calls.mono (HC.out _) ?_; rintro e w1 ⟨rfl, hb⟩))
        go_ret
        exact ⟨ret_bool (allB_no hlt (by rw [HO.out]; exact HN.out)), HB.out.trans (hb.mono HB.out.size)⟩
      · rw [h1] at HC
        have HN : Hid _ := h1
        clear h1
        go_wp2_with (first | (go_at_call 66; refine Calls.mono (HC.out _) ?_; rintro e w1 ⟨rfl, hb⟩))
        go_roundw
        case rel =>
          refine ⟨k + 1, by omega, by go_num, fun j hj hjk => ?_, HB.out.trans (hb.mono HB.out.size)⟩
          rcases Nat.lt_or_ge j k with h | h
          · exact HK.out j hj h
          · obtain rfl : j = k := by omega
            rw [HO.out]; exact HN.out
        case measure => simp [intOf]; omega
    · obtain rfl : k = xs.length := by omega
      go_wp2
      go_ret
      exact ⟨ret_bool (allB_yes fun j hj => hok j hj hj), hbw⟩

set_option maxHeartbeats 4000000 in
theorem refEnd_any (x : Bk) (p : Pl) (n : Int) (w : World) (hx : BIn w x p) :
    Calls Tryz.prog 40 #[x.val p, .int .i64 n] w fun e w' => e = .returned (.bool (endB x n)) ∧ Below w.heap.size w w' := by
  have hl := hx.b.len
  clear hx
  generalize hr : endB x n = r
  have HR : Hid (endB x n = r) := hr
  clear hr
  by_cases hf : x.fin < 0 ∨ 3 < x.fin
  · have e1 : r = false := by
      rw [← HR.out]
      have : eK x.fin = false := by simp [eK]; omega
      simp [endB, this]
    subst e1
    rcases hf with hf | hf
    all_goals
      go_enter Tryz.func40, Tryz.ntmps40
      go_wp2
      go_ret
      exact ⟨rfl, by go_grown⟩
  · have h4 : x.fin = 0 ∨ x.fin = 1 ∨ x.fin = 2 ∨ x.fin = 3 := by omega
    clear hf
    obtain ⟨ops, fin, a, body, thn, els⟩ := x
    simp only at h4 hl
    have HR' : Hid ((eK fin && rH a (eA fin) && bH thn n (eT fin) && bH els n (eE fin) && (decide (body.length = 0) || eB fin)) = r) := HR.out
    clear HR
    show Calls Tryz.prog 40 #[.agg #[.slice p.oa ops.length p.oc, .int .i8 fin, .int .u8 a, .slice p.ba body.length p.bc, .int .i64 thn, .int .i64 els], .int .i64 n] w _
    generalize body.length = L at *
    generalize ops.length = L' at *
    rcases h4 with rfl | rfl | rfl | rfl
    all_goals
      go_enter Tryz.func40, Tryz.ntmps40
      go_wp2
      all_goals
        go_ret
        refine ⟨ret_bool ?_, by go_grown⟩
        rw [← HR'.out]
        clear HR'
        rw [Bool.eq_iff_iff]
        first
          | (simp [eK, eA, eB, eT, eE, rH, bH]; done)
          | (simp [eK, eA, eB, eT, eE, rH, bH]; omega)
          | (simp only [bne_iff_ne, ne_eq, bne_eq_false_iff_eq] at *; simp [eK, eA, eB, eT, eE, rH, bH]; omega)
end Go.Proofs.YtddcndlogoajkaaGreatDoor.L8.Op
namespace Go.Proofs.YtddcndlogoajkaaGreatDoor.L8.Op
open Go.ChangeShapes Go.WideShapes Go.ChangeAt Go.RowKit
set_option maxRecDepth 20000

theorem ckB_1 {x : Bk} {n : Int} (h : allB x.ops = false) : ckB x n = 30 := by simp [ckB, h]
theorem ckB_2 {x : Bk} {n : Int} (h : allB x.ops = true) (h2 : endB x n = false) : ckB x n = 50 := by simp [ckB, h, h2]
theorem ckB_3 {x : Bk} {n : Int} (h : allB x.ops = true) (h2 : endB x n = true) (h3 : allB x.body = false) : ckB x n = 30 := by simp [ckB, h, h2, h3]
theorem ckB_4 {x : Bk} {n : Int} (h : allB x.ops = true) (h2 : endB x n = true) (h3 : allB x.body = true) : ckB x n = 0 := by simp [ckB, h, h2, h3]
theorem firstE_at {n : Int} {ps : List Bk} {k : Nat} {v : Int} (h : k < ps.length) (h0 : ∀ (j : Nat) (hj : j < ps.length), j < k → ckB ps[j] n = 0) (e : ckB ps[k] n = v) (hv : ¬ v = 0) : v = firstE n ps := by
  rw [← e]; exact firstE_no h h0 (by rw [e]; exact hv)

set_option maxHeartbeats 4000000 in
theorem refCheckP_any (ao : Option Addr) (cap : Nat) (ps : List Bk) (w : World) (h : PAt w ao ps) :
    Calls Tryz.prog 22 #[.agg #[.slice ao ps.length cap]] w fun e w' => e = .returned (.int .i64 (ckP ps)) ∧ Below w.heap.size w w' := by
  have hlen := h.len
  by_cases h1 : 128 < ps.length
  · rw [show ckP ps = 3 by simp [ckP, h1]]
    clear h
    go_enter Tryz.func22, Tryz.ntmps22
    go_wp2
    go_ret
    exact ⟨rfl, by go_grown⟩
  · have HO : Hid (∀ w1, Below w.heap.size w w1 → Calls Tryz.prog 38 #[.agg #[.slice ao ps.length cap]] w1 fun e w' => e = .returned (.int .i64 (opsN ps)) ∧ Below w1.heap.size w1 w') := fun w1 hb => refOps_any _ _ _ _ (h.below hb) (by omega)
    by_cases h2 : 1024 < opsN ps
    · rw [show ckP ps = 3 by simp [ckP, h2]]
      clear h
      go_enter Tryz.func22, Tryz.ntmps22
      go_wp2_with (first | (go_at_call 38; refine Calls.mono (HO.out _ (by go_grown)) ?_; rintro e w1 ⟨rfl, hb⟩))
      go_ret
      obtain ⟨-, hb0, -⟩ := one_new w _ _ hb
      exact ⟨rfl, hb0⟩
    · by_cases h3 : ps.length = 0
      · rw [show ckP ps = 50 by simp [ckP, h2, h3]]
        clear h
        obtain rfl : ps = [] := List.eq_nil_of_length_eq_zero h3
        have HO' : Hid (∀ w1, Below w.heap.size w w1 → Calls Tryz.prog 38 #[.agg #[.slice ao 0 cap]] w1 fun e w' => e = .returned (.int .i64 0) ∧ Below w1.heap.size w1 w') := HO.out
        clear HO h1 h2 h3
        show Calls Tryz.prog 22 #[.agg #[.slice ao 0 cap]] w _
        go_enter Tryz.func22, Tryz.ntmps22
        go_wp2_with (first | (go_at_call 38; refine Calls.mono (HO'.out _ (by go_grown)) ?_; rintro e w1 ⟨rfl, hb⟩; obtain ⟨a1, hb0, hz⟩ := one_new w _ _ hb; have HB1 : Hid _ := hb0; have c0 := a1.c 0 _ rfl; clear hb hb0 a1))
        go_ret
        exact ⟨rfl, HB1.out⟩
      · rw [show ckP ps = firstE ps.length ps by simp [ckP, h1, h2, h3]]
        have HP : Hid _ := h
        have h6 : ((ps.length : Int) == 0) = false := by simp; exact fun e => h3 (by rw [e]; rfl)
        clear h
        go_enter Tryz.func22, Tryz.ntmps22
        go_wp2_with (first | (go_at_call 38; refine Calls.mono (HO.out _ (by go_grown)) ?_; rintro e w1 ⟨rfl, hb⟩; obtain ⟨a1, hb0, hz⟩ := one_new w _ _ hb; have HB1 : Hid _ := hb0; have HA : Hid _ := a1; have c0 := a1.c 0 _ rfl; clear hb hb0 a1 HO))
        go_loopw [4] (fun i wr => ∃ k : Nat, k ≤ ps.length ∧ i = .int .i64 k ∧ (∀ (j : Nat) (hj : j < ps.length), j < k → ckB ps[j] ps.length = 0) ∧ At wr w.heap.size #[.slice ao ps.length cap] ∧ Below w.heap.size w wr) (fun i _ => ps.length - (intOf i).toNat)
        case atStart => exact ⟨0, by omega, rfl, fun j _ hj => by omega, HA.out, HB1.out⟩
        case round =>
          rename_i wr
          obtain ⟨k, hk, rfl, hok, hat, hbw⟩ := hrel
          clear HA HB1
          by_cases hlt : k < ps.length
          · obtain ⟨b, f, rfl, hz, hx⟩ := HP.out.is (by omega)
            obtain ⟨p, hp, h5⟩ := hx k hlt
            obtain ⟨c0, c1, c2, c3, c4, c5⟩ := hp.below hbw hz
            have cw := hat.c 0 _ rfl
            have HO : Hid (∀ w1, Below w.heap.size w w1 → Calls Tryz.prog 39 #[.slice p.oa ps[k].ops.length p.oc] w1 fun e w' => e = .returned (.bool (allB ps[k].ops)) ∧ Below w1.heap.size w1 w') := fun w1 hb => refAll_any _ _ _ _ (h5.o.below hb)
            have HE : Hid (∀ w1, Below w.heap.size w w1 → Calls Tryz.prog 40 #[ps[k].val p, .int .i64 ps.length] w1 fun e w' => e = .returned (.bool (endB ps[k] ps.length)) ∧ Below w1.heap.size w1 w') := fun w1 hb => refEnd_any _ _ _ _ (h5.below hb)
            have HY : Hid (∀ w1, Below w.heap.size w w1 → Calls Tryz.prog 39 #[.slice p.ba ps[k].body.length p.bc] w1 fun e w' => e = .returned (.bool (allB ps[k].body)) ∧ Below w1.heap.size w1 w') := fun w1 hb => refAll_any _ _ _ _ (h5.b.below hb)
            have HK : Hid _ := hok
            have HB : Hid _ := hbw
            have HT : Hid _ := hat
            have hzr := hat.lt
            have K1 : Hid _ := @ckB_1 ps[k] ps.length
            have K2 : Hid _ := @ckB_2 ps[k] ps.length
            have K3 : Hid _ := @ckB_3 ps[k] ps.length
            have K4 : Hid _ := @ckB_4 ps[k] ps.length
            clear hx hp h5 HP hok hbw hat
            generalize allB ps[k].ops = g1 at *
            generalize endB ps[k] ps.length = g2 at *
            generalize allB ps[k].body = g3 at *
            cases g1
            · go_wp2_with (first | (go_at_call 39; refine Calls.mono (HO.out _ (HB.out.alloc HB.out.size _)) ?_; rintro e w2 ⟨rfl, hb⟩; obtain ⟨a1, hb3, hz3⟩ := one_new wr _ _ hb; have HB2 : Hid (Below w.heap.size w w2) := HB.out.trans (hb3.mono HB.out.size); clear hb hb3 HO a1))
              go_ret
              exact ⟨ret_int (firstE_at hlt HK.out (K1.out (by trivial)) (by decide)), HB2.out⟩
            · cases g2
              · go_wp2_with (first
                  | (go_at_call 39; refine Calls.mono (HO.out _ (HB.out.alloc HB.out.size _)) ?_; rintro e w2 ⟨rfl, hb⟩; obtain ⟨a1, hb3, hz3⟩ := one_new wr _ _ hb; have HB2 : Hid (Below w.heap.size w w2) := HB.out.trans (hb3.mono HB.out.size); clear c0 c1 c2 c3 c4 c5; obtain ⟨c0, c1, c2, c3, c4, c5⟩ := a1.b6; clear hb hb3 HO a1)
                  | (go_at_call 40; refine Calls.mono (HE.out _ HB2.out) ?_; rintro e w3 ⟨rfl, hb⟩; have HB3 : Hid (Below w.heap.size w w3) := HB2.out.trans (hb.mono HB2.out.size); clear hb HE))
                go_ret
                exact ⟨ret_int (firstE_at hlt HK.out (K2.out (by trivial) (by trivial)) (by decide)), HB3.out⟩
              · cases g3
                all_goals
                  go_wp2_with (first
                    | (go_at_call 39; refine Calls.mono (HO.out _ (HB.out.alloc HB.out.size _)) ?_; rintro e w2 ⟨rfl, hb⟩; obtain ⟨a1, hb3, hz3⟩ := one_new wr _ _ hb; have HB2 : Hid (Below w.heap.size w w2) := HB.out.trans (hb3.mono HB.out.size); have HA2 : Hid _ := a1; have HT2 : Hid _ := HT.out.below hb3 HT.out.lt; clear c0 c1 c2 c3 c4 c5; obtain ⟨c0, c1, c2, c3, c4, c5⟩ := a1.b6; clear hb hb3 HO a1)
                    | (go_at_call 40; refine Calls.mono (HE.out _ HB2.out) ?_; rintro e w3 ⟨rfl, hb⟩; have HB3 : Hid (Below w.heap.size w w3) := HB2.out.trans (hb.mono HB2.out.size); have a1 := HA2.out.below hb HA2.out.lt; have HT3 : Hid _ := HT2.out.below hb HT2.out.lt; clear c0 c1 c2 c3 c4 c5; obtain ⟨c0, c1, c2, c3, c4, c5⟩ := a1.b6; clear hb HE a1)
                    | (go_at_call 39; refine Calls.mono (HY.out _ HB3.out) ?_; rintro e w4 ⟨rfl, hb⟩; have HB4 : Hid (Below w.heap.size w w4) := HB3.out.trans (hb.mono HB3.out.size); have HT4 : Hid _ := HT3.out.below hb HT3.out.lt; clear hb HY))
                · go_ret
                  exact ⟨ret_int (firstE_at hlt HK.out (K3.out (by trivial) (by trivial) (by trivial)) (by decide)), HB4.out⟩
                · go_roundw
                  case rel =>
                    refine ⟨k + 1, by omega, by go_num, fun j hj hjk => ?_, HT4.out, HB4.out⟩
                    rcases Nat.lt_or_ge j k with h | h
                    · exact HK.out j hj h
                    · obtain rfl : j = k := by omega
                      exact K4.out (by trivial) (by trivial) (by trivial)
                  case measure => simp [intOf]; omega
          · obtain rfl : k = ps.length := by omega
            go_wp2
            go_ret
            exact ⟨ret_int (firstE_yes fun j hj => hok j hj hj), hbw⟩
end Go.Proofs.YtddcndlogoajkaaGreatDoor.L8.Op
