/- The document's Meet and Round, and the statement AliasTells out of what the callees answer. Conditions: the list lies in memory. -/
import Derived.Test.YthdpgimdakmdgaaDoorAf
import Derived.Test.YthdpgimdakmdgaaDoorAd
namespace Go.Proofs.YthdpgimdakmdgaaDoor.Al
open Go.ChangeShapes Go.WideShapes Go.ChangeAt Go.RowKit
open _root_.Go.Proofs.YthdpgimdakmdgaaDoor.Op
set_option maxRecDepth 20000

theorem cut_all (xs : List O) : cut xs ((0 : Nat) : Int) ((xs.length : Nat) : Int) = xs := by unfold cut; simp
set_option maxHeartbeats 1000000 in
theorem refRound_any (ao : Option Addr) (cap : Nat) (xs : List O) (i j : Int) (w : World) (h : OpsAt w ao xs) :
    Calls Tryd.prog 40 #[.slice ao xs.length cap, .int .i64 i, .int .i64 j] w fun e w' => e = .returned (.bool (roundB xs i j)) ∧ Below w.heap.size w w' := by
  have HP : Hid (Calls Tryd.prog 60 #[.slice ao xs.length cap, .int .i64 i, .int .i64 j] w fun e w' => e = .returned (.bool (pairB xs i j)) ∧ Below w.heap.size w w') := two_any ao cap xs i j w h
  have hdef : roundB xs i j = (pairB xs i j && may (atL xs i) (atL xs j) xs) := rfl
  rw [hdef]
  clear hdef
  cases hp : pairB xs i j
  · rw [hp] at HP
    clear h hp
    go_enter Tryd.func40, Tryd.ntmps40
    go_wp2_with (first | (go_at_call 60; refine Calls.mono HP.out ?_; rintro e w1 ⟨rfl, hb⟩))
    go_ret
    exact ⟨rfl, hb⟩
  · rw [hp] at HP
    obtain ⟨k, m, hk, hm, rfl, rfl⟩ := pair_in hp
    rw [atL_at hk, atL_at hm]
    obtain ⟨b, f, rfl, hz, hx⟩ := h.is (by omega)
    have HM : Hid (∀ W, Below w.heap.size w W → Calls Tryd.prog 61 #[.slice (some ⟨b, f, none⟩) xs.length cap, .int .i64 k, .int .i64 m, .int .i64 0, .int .i64 xs.length] W fun e w' => e = .returned (.bool (!may xs[k] xs[m] xs)) ∧ Below W.heap.size W w') := fun W hb => by
      have := apart_any b f cap xs k m 0 xs.length W (h.below hb) hk hm (by omega) (Nat.le_refl _)
      rw [cut_all] at this
      exact this
    clear h hp hx
    generalize may xs[k] xs[m] xs = v at *
    go_enter Tryd.func40, Tryd.ntmps40
    go_wp2_with (first | (go_at_call 60; refine Calls.mono HP.out ?_; rintro e w1 ⟨rfl, hb⟩; have HB : Hid (Below w.heap.size w w1) := hb; clear hb HP) | (go_at_call 61; refine Calls.mono (HM.out _ HB.out) ?_; rintro e w2 ⟨rfl, hb⟩; have HB2 : Hid (Below w.heap.size w w2) := HB.out.trans (hb.mono HB.out.size); clear hb HM))
    go_ret
    exact ⟨ret_bool (by simp), HB2.out⟩
set_option maxHeartbeats 1000000 in
theorem refMeet_any (ao : Option Addr) (cap : Nat) (xs : List O) (i j : Int) (w : World) (h : OpsAt w ao xs) :
    Calls Tryd.prog 53 #[.slice ao xs.length cap, .int .i64 i, .int .i64 j] w fun e w' => e = .returned (.bool (meetB xs i j)) ∧ Below w.heap.size w w' := by
  have HP : Hid (Calls Tryd.prog 60 #[.slice ao xs.length cap, .int .i64 i, .int .i64 j] w fun e w' => e = .returned (.bool (pairB xs i j)) ∧ Below w.heap.size w w') := two_any ao cap xs i j w h
  have hdef : meetB xs i j = (decide (i < j) && pairB xs i j && may (atL xs i) (atL xs j) (cut xs i j)) := rfl
  rw [hdef]
  clear hdef
  by_cases hij : i < j
  rotate_left
  · rw [decide_eq_false hij]
    have hij2 : j ≤ i := by omega
    clear h HP hij
    go_enter Tryd.func53, Tryd.ntmps53
    go_wp2_with fail
    go_ret
    exact ⟨rfl, Below.refl _ _⟩
  rw [decide_eq_true hij]
  cases hp : pairB xs i j
  · rw [hp] at HP
    clear h hp
    go_enter Tryd.func53, Tryd.ntmps53
    go_wp2_with (first | (go_at_call 60; refine Calls.mono HP.out ?_; rintro e w1 ⟨rfl, hb⟩))
    go_ret
    exact ⟨rfl, hb⟩
  · rw [hp] at HP
    obtain ⟨k, m, hk, hm, rfl, rfl⟩ := pair_in hp
    rw [atL_at hk, atL_at hm]
    obtain ⟨b, f, rfl, hz, hx⟩ := h.is (by omega)
    have HM : Hid (∀ W, Below w.heap.size w W → Calls Tryd.prog 61 #[.slice (some ⟨b, f, none⟩) xs.length cap, .int .i64 k, .int .i64 m, .int .i64 k, .int .i64 m] W fun e w' => e = .returned (.bool (!may xs[k] xs[m] (cut xs k m))) ∧ Below W.heap.size W w') := fun W hb => apart_any b f cap xs k m k m W (h.below hb) hk hm (by omega) (by omega)
    clear h hp hx
    generalize may xs[k] xs[m] (cut xs k m) = v at *
    go_enter Tryd.func53, Tryd.ntmps53
    go_wp2_with (first | (go_at_call 60; refine Calls.mono HP.out ?_; rintro e w1 ⟨rfl, hb⟩; have HB : Hid (Below w.heap.size w w1) := hb; clear hb HP) | (go_at_call 61; refine Calls.mono (HM.out _ HB.out) ?_; rintro e w2 ⟨rfl, hb⟩; have HB2 : Hid (Below w.heap.size w w2) := HB.out.trans (hb.mono HB.out.size); clear hb HM))
    go_ret
    exact ⟨ret_bool (by simp), HB2.out⟩
end Go.Proofs.YthdpgimdakmdgaaDoor.Al
