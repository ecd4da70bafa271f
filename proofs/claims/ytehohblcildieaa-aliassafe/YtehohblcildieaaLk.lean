/- Two lists that are the same are said to be (LikeOps): read off the program by the walk. Conditions: both lie in memory. -/
import Derived.Test.YtehohblcildieaaPm
import Derived.Test.YtehohblcildieaaKd
import Derived.Deep.QuietTactic
import Derived.BigQuiet
namespace Go.Proofs.Ytehohblcildieaa.Op
open Go.ChangeShapes Go.WideShapes Go.ChangeAt Go.RowKit
set_option maxRecDepth 20000

theorem drewN_below {B : Nat} {a w : World} (h : Below B a w) (n : Nat) : Below B a (w.drewN n) := ⟨h.os, h.tape, h.output, h.size, h.block⟩
set_option maxHeartbeats 1000000 in
theorem likeOps_any (ao bo : Option Addr) (c d : Nat) (xs : List O) (w : World) (h : OpsAt w ao xs) (h' : OpsAt w bo xs) :
    Calls Try.prog 12 #[.slice ao xs.length c, .slice bo xs.length d] w fun e w' => e = .returned (.bool true) ∧ Below w.heap.size w w' := by
  have HA : Hid (OpsAt w ao xs) := h
  have HB : Hid (OpsAt w bo xs) := h'
  have hlen := h.len
  clear h h'
  go_enter Try.func12, Try.ntmps12
  go_wp2
  go_loopw [5] (fun i wr => ∃ k : Nat, k ≤ xs.length ∧ i = .int .i64 k ∧ Below w.heap.size w wr) (fun i _ => xs.length - (intOf i).toNat)
  case atStart => exact ⟨0, by omega, rfl, Below.refl _ _⟩
  case round =>
    rename World => wr
    obtain ⟨k, hk, rfl, hbw⟩ := hrel
    by_cases hlt : k < xs.length
    · obtain ⟨b, f, rfl, hz, hx⟩ := HA.out.is (by omega)
      obtain ⟨b', f', rfl, hz', hx'⟩ := HB.out.is (by omega)
      obtain ⟨c0, c1, c2, c3, c4⟩ := (hx k hlt).below hbw hz
      obtain ⟨d0, d1, d2, d3, d4⟩ := (hx' k hlt).below hbw hz'
      clear hx hx' HA HB
      generalize xs[k] = o at *
      go_wp2
      go_quiet (fail)
      go_wp2
      go_roundw
      case rel => exact ⟨k + 1, by omega, by go_num, drewN_below hbw nq⟩
      case measure => simp [intOf]; omega
    · obtain rfl : k = xs.length := by omega
      go_wp2
      go_ret
      exact ⟨rfl, hbw⟩
end Go.Proofs.Ytehohblcildieaa.Op
