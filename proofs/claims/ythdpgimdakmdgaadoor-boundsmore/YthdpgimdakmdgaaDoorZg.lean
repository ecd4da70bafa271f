/- Package bounds: whether there are units, how many cycles they take (haveUnits, divideUp, byUnits), read off the program by the walk. Conditions: the list lies in memory. -/
import Derived.Test.YthdpgimdakmdgaaDoorZb
namespace Go.Proofs.YthdpgimdakmdgaaDoor.Bn
open Go.ChangeShapes Go.WideShapes Go.ChangeAt Go.RowKit
open _root_.Go.Proofs.YthdpgimdakmdgaaDoor.Op _root_.Go.Proofs.YthdpgimdakmdgaaDoor.So
open _root_.Go.Proofs.YthdpgimdakmdgaaDoor.Tb (Tab TabAt Bnds)
set_option maxRecDepth 20000

set_option maxHeartbeats 4000000 in
theorem haveUnits_any (ao : Option Addr) (cap : Nat) (xs : List O) (t : Tab) (w : World) (h : OpsAt w ao xs) :
    Calls Tryd.prog 27 #[.slice ao xs.length cap, t.val] w fun e w' => e = .returned (.bool (huB t (cts xs) 4)) ∧ Below w.heap.size w w' := by
  have HC : Hid (∀ W, Below w.heap.size w W → Calls Tryd.prog 28 #[.slice ao xs.length cap] W fun e w' => e = .returned (agg4 (cts xs)) ∧ Below W.heap.size W w') := fun W g => countsOf_any ao cap xs W (h.below g)
  clear h
  generalize cts xs = F at *
  unfold Tab.val at *
  go_enter Tryd.func27, Tryd.ntmps27
  go_wp2_with (first
    | (go_at_call 28; refine Calls.mono (HC.out _ (by go_grown)) ?_; rintro e w1 ⟨rfl, hb⟩; have HT : Hid (Tq w w1 t) := Tq.start w t hb; clear hb HC))
  go_loopw [9] (fun v wr => ∃ k : Nat, k ≤ 4 ∧ v = .int .i64 k ∧ huB t F k = true ∧ Tq w wr t) (fun v _ => 4 - (intOf v).toNat)
  case atStart => exact ⟨0, by omega, rfl, rfl, HT.out⟩
  case round =>
    rename World => wr
    obtain ⟨k, hk, rfl, hu, hs⟩ := hrel
    have HQ : Hid (Tq w wr t) := hs
    have HU : Hid (huB t F k = true) := hu
    clear hs hu HT
    by_cases hlt : k < 4
    · have k0 : (0 : Int) ≤ (k : Int) := by omega
      have k1 : (k : Int) < 4 := by omega
      have hidx : ∀ w, (Instr.index 23 (agg4 F) (.int .i64 (k : Int))).run Tryd.prog w = .ok (.int .i64 (F k)) w := fun w => agg4_at F w hlt
      have cu := HQ.out.t.cu k hlt
      have cl := HQ.out.t.lt
      have HNx : Hid (huB t F (k + 1) = !(decide (0 < F k) && decide (t.u k = 0))) := by show huB t F (k + 1) = _; unfold huB; rw [HU.out]; simp
      have HNo : Hid ((decide (0 < F k) && decide (t.u k = 0)) = true → huB t F 4 = false) := huB_le hlt
      generalize F k = fv at *
      generalize t.u k = uv at *
      by_cases h1 : 0 < fv
      · by_cases h2 : uv = 0
        · subst h2
          have HRes : Hid (huB t F 4 = false) := HNo.out (by simpa using h1)
          go_wp2_with fail
          go_ret
          exact ⟨by rw [HRes.out]; rfl, HQ.out.up⟩
        · have HRel : Hid (huB t F (k + 1) = true) := by show huB t F (k + 1) = true; rw [HNx.out]; simp [h2]
          have h2' : (uv == 0) = false := by simpa using h2
          go_wp2_with fail
          go_roundw
          case rel => exact ⟨k + 1, by omega, by go_num, HRel.out, HQ.out⟩
          case measure => simp [intOf]; omega
      · have HRel : Hid (huB t F (k + 1) = true) := by show huB t F (k + 1) = true; rw [HNx.out]; simp [h1]
        go_wp2_with fail
        go_roundw
        case rel => exact ⟨k + 1, by omega, by go_num, HRel.out, HQ.out⟩
        case measure => simp [intOf]; omega
    · obtain rfl : k = 4 := by omega
      have k1 : ¬ ((4 : Nat) : Int) < 4 := by omega
      go_wp2_with fail
      go_ret
      exact ⟨by rw [HU.out]; rfl, HQ.out.up⟩
theorem divideUp_any (n d : Int) (w : World) (hn0 : 0 ≤ n) (hn1 : n ≤ 1152921504606846976) (hd0 : 1 ≤ d) (hd1 : d ≤ 8) : Calls Tryd.prog 29 #[.int .i64 n, .int .i64 d] w fun e w' => e = .returned (.int .i64 ((n + d - 1).tdiv d)) ∧ w' = w := by
  have hd : ¬ d = 0 := by omega
  have h3 : 0 ≤ (n + d - 1).tdiv d := Int.tdiv_nonneg (by omega) (by omega)
  have h4 : (n + d - 1).tdiv d ≤ n + d - 1 := by
    rw [Int.tdiv_eq_ediv_of_nonneg (by omega)]
    exact Int.ediv_le_self _ (by omega)
  go_enter Tryd.func29, Tryd.ntmps29
  go_wp2
  go_ret
  exact ⟨rfl, rfl⟩
end Go.Proofs.YthdpgimdakmdgaaDoor.Bn
