/- The document's answer on a list of operations and on a block's end (Op, all, End): read off the program by the walk. Conditions: the list lies in memory, each field is a number of its own width. -/
import Derived.Test.YtlnfhbkkodhmaaaDoorPc
import Derived.Test.YtlnfhbkkodhmaaaDoorRc
namespace Go.Proofs.YtlnfhbkkodhmaaaDoor.Op
open Go.ChangeShapes Go.WideShapes Go.ChangeAt Go.RowKit
set_option maxRecDepth 20000

set_option maxHeartbeats 1000000 in
theorem refOp_any (o : O) (w : World) (ho : o.Ok) : Calls Tryd.prog 68 #[o.val] w fun e w' => e = .returned (.bool (okP o)) ∧ Below w.heap.size w w' := by
  have HC : Hid (∀ w, Calls Tryd.prog 81 #[o.val] w fun e w' => e = .returned (.int .i64 (ckE o)) ∧ Below w.heap.size w w') := fun w => refCheck_any o w ho
  clear ho
  by_cases g1 : o.op < 1
  · have e1 : okP o = false := by simp [okP]; omega
    rw [e1]
    go_enter Tryd.func68, Tryd.ntmps68
    go_wp2
    go_ret
    exact ⟨rfl, by go_grown⟩
  · by_cases g2 : 17 < o.op
    · have e1 : okP o = false := by simp [okP]; omega
      rw [e1]
      go_enter Tryd.func68, Tryd.ntmps68
      go_wp2
      go_ret
      exact ⟨rfl, by go_grown⟩
    · have e1 : okP o = okO o := by
        have a : decide (1 ≤ o.op) = true := by simp; omega
        have b : decide (o.op ≤ 17) = true := by simp; omega
        simp only [okP, a, b, Bool.true_and]
      have e2 : ckE o = if okO o then 0 else 30 := rfl
      rw [e1]
      rw [e2] at HC
      clear e1 e2
      cases h3 : okO o
      all_goals
        rw [h3] at HC
        clear h3
        go_enter Tryd.func68, Tryd.ntmps68
        go_wp2_with (first | (go_at_call 81; refine Calls.mono (HC.out _) ?_; rintro e w1 ⟨rfl, hb⟩; obtain ⟨-, hb0, -⟩ := one_new w _ _ hb; have HB : Hid _ := hb0; clear hb hb0))
        go_ret
        exact ⟨rfl, HB.out⟩

set_option maxHeartbeats 1000000 in
theorem refAll_any (ao : Option Addr) (cap : Nat) (xs : List O) (w : World) (h : OpsAt w ao xs) :
    Calls Tryd.prog 52 #[.slice ao xs.length cap] w fun e w' => e = .returned (.bool (allB xs)) ∧ Below w.heap.size w w' := by
  have HP : Hid _ := h
  have hlen := h.len
  clear h
  go_enter Tryd.func52, Tryd.ntmps52
  go_wp2
  go_loopw [3] (fun i wr => ∃ k : Nat, k ≤ xs.length ∧ i = .int .i64 k ∧ (∀ (j : Nat) (hj : j < xs.length), j < k → okP xs[j] = true) ∧ Below w.heap.size w wr) (fun i _ => xs.length - (intOf i).toNat)
  case atStart => exact ⟨0, by omega, rfl, fun j _ hj => by omega, Below.refl _ _⟩
  case round =>
    rename_i wr
    obtain ⟨k, hk, rfl, hok, hbw⟩ := hrel
    by_cases hlt : k < xs.length
    · obtain ⟨b, f, rfl, hz, hx⟩ := HP.out.is (by omega)
      obtain ⟨c0, c1, c2, c3, c4⟩ := (hx k hlt).below hbw hz
      have ho := HP.out.ok xs[k] (List.getElem_mem hlt)
      have HC : Hid (∀ w, Calls Tryd.prog 68 #[xs[k].val] w fun e w' => e = .returned (.bool (okP xs[k])) ∧ Below w.heap.size w w') := fun w => refOp_any xs[k] w ho
      have HK : Hid _ := hok
      have HB : Hid _ := hbw
      clear hx HP hok hbw ho
      generalize hg : xs[k] = o at *
      have HO : Hid (xs[k] = o) := hg
      clear hg
      cases h1 : okP o
      · rw [h1] at HC
        have HN : Hid _ := h1
        clear h1
        go_wp2_with (first | (go_at_call 68; refine Calls.mono (HC.out _) ?_; rintro e w1 ⟨rfl, hb⟩))
        go_ret
        exact ⟨ret_bool (allB_no hlt (by rw [HO.out]; exact HN.out)), HB.out.trans (hb.mono HB.out.size)⟩
      · rw [h1] at HC
        have HN : Hid _ := h1
        clear h1
        go_wp2_with (first | (go_at_call 68; refine Calls.mono (HC.out _) ?_; rintro e w1 ⟨rfl, hb⟩))
        go_roundw
        case rel =>
          refine ⟨k + 1, by omega, by go_num, fun j hj hjk => ?_, HB.out.trans (hb.mono HB.out.size)⟩
          rcases Nat.lt_or_ge j k with h | h
          · exact HK.out j hj h
          · obtain rfl : j = k := by omega
            rw [HO.out]; exact HN.out
        case measure => simp [intOf]; omega
    · obtain rfl : k = xs.length := by omega
      go_wp2
      go_ret
      exact ⟨ret_bool (allB_yes fun j hj => hok j hj hj), hbw⟩

set_option maxHeartbeats 4000000 in
theorem refEnd_any (x : Bk) (p : Pl) (n : Int) (w : World) (hx : BIn w x p) :
    Calls Tryd.prog 53 #[x.val p, .int .i64 n] w fun e w' => e = .returned (.bool (endB x n)) ∧ Below w.heap.size w w' := by
  have hl := hx.b.len
  clear hx
  generalize hr : endB x n = r
  have HR : Hid (endB x n = r) := hr
  clear hr
  by_cases hf : x.fin < 0 ∨ 3 < x.fin
  · have e1 : r = false := by
      rw [← HR.out]
      have : eK x.fin = false := by simp [eK]; omega
      simp [endB, this]
    subst e1
    rcases hf with hf | hf
    all_goals
      go_enter Tryd.func53, Tryd.ntmps53
      go_wp2
      go_ret
      exact ⟨rfl, by go_grown⟩
  · have h4 : x.fin = 0 ∨ x.fin = 1 ∨ x.fin = 2 ∨ x.fin = 3 := by omega
    clear hf
    obtain ⟨ops, fin, a, body, thn, els⟩ := x
    simp only at h4 hl
    have HR' : Hid ((eK fin && rH a (eA fin) && bH thn n (eT fin) && bH els n (eE fin) && (decide (body.length = 0) || eB fin)) = r) := HR.out
    clear HR
    show Calls Tryd.prog 53 #[.agg #[.slice p.oa ops.length p.oc, .int .i8 fin, .int .u8 a, .slice p.ba body.length p.bc, .int .i64 thn, .int .i64 els], .int .i64 n] w _
    generalize body.length = L at *
    generalize ops.length = L' at *
    rcases h4 with rfl | rfl | rfl | rfl
    all_goals
      go_enter Tryd.func53, Tryd.ntmps53
      go_wp2
      all_goals
        go_ret
        refine ⟨ret_bool ?_, by go_grown⟩
        rw [← HR'.out]
        clear HR'
        rw [Bool.eq_iff_iff]
        first
          | (simp [eK, eA, eB, eT, eE, rH, bH]; done)
          | (simp [eK, eA, eB, eT, eE, rH, bH]; omega)
          | (simp only [bne_iff_ne, ne_eq, bne_eq_false_iff_eq] at *; simp [eK, eA, eB, eT, eE, rH, bH]; omega)
end Go.Proofs.YtlnfhbkkodhmaaaDoor.Op
