/- The document's Meet and Round, and the statement AliasTells out of what the callees answer. Conditions: the list lies in memory. -/
import Derived.Test.YtehohblcildieaaAf
import Derived.Test.YtehohblcildieaaCp
namespace Go.Proofs.Ytehohblcildieaa.Al
open Go.ChangeShapes Go.WideShapes Go.ChangeAt Go.RowKit
open _root_.Go.Proofs.Ytehohblcildieaa.Op
set_option maxRecDepth 20000

theorem cut_all (xs : List O) : cut xs ((0 : Nat) : Int) ((xs.length : Nat) : Int) = xs := by unfold cut; simp
set_option maxHeartbeats 1000000 in
theorem refRound_any (ao : Option Addr) (cap : Nat) (xs : List O) (i j : Int) (w : World) (h : OpsAt w ao xs) :
    Calls Try.prog 11 #[.slice ao xs.length cap, .int .i64 i, .int .i64 j] w fun e w' => e = .returned (.bool (roundB xs i j)) ∧ Below w.heap.size w w' := by
  have HP : Hid (Calls Try.prog 18 #[.slice ao xs.length cap, .int .i64 i, .int .i64 j] w fun e w' => e = .returned (.bool (pairB xs i j)) ∧ Below w.heap.size w w') := two_any ao cap xs i j w h
  have hdef : roundB xs i j = (pairB xs i j && may (atL xs i) (atL xs j) xs) := rfl
  rw [hdef]
  clear hdef
  cases hp : pairB xs i j
  · rw [hp] at HP
    clear h hp
    go_enter Try.func11, Try.ntmps11
    go_wp2_with (first | (go_at_call 18; refine Calls.mono HP.out ?_; rintro e w1 ⟨rfl, hb⟩))
    go_ret
    exact ⟨rfl, hb⟩
  · rw [hp] at HP
    obtain ⟨k, m, hk, hm, rfl, rfl⟩ := pair_in hp
    rw [atL_at hk, atL_at hm]
    obtain ⟨b, f, rfl, hz, hx⟩ := h.is (by omega)
    have HM : Hid (∀ W, Below w.heap.size w W → Calls Try.prog 19 #[.slice (some ⟨b, f, none⟩) xs.length cap, .int .i64 k, .int .i64 m, .int .i64 0, .int .i64 xs.length] W fun e w' => e = .returned (.bool (!may xs[k] xs[m] xs)) ∧ Below W.heap.size W w') := fun W hb => by
      have := apart_any b f cap xs k m 0 xs.length W (h.below hb) hk hm (by omega) (Nat.le_refl _)
      rw [cut_all] at this
      exact this
    clear h hp hx
    generalize may xs[k] xs[m] xs = v at *
    go_enter Try.func11, Try.ntmps11
    go_wp2_with (first | (go_at_call 18; refine Calls.mono HP.out ?_; rintro e w1 ⟨rfl, hb⟩; have HB : Hid (Below w.heap.size w w1) := hb; clear hb HP) | (go_at_call 19; refine Calls.mono (HM.out _ HB.out) ?_; rintro e w2 ⟨rfl, hb⟩; have HB2 : Hid (Below w.heap.size w w2) := HB.out.trans (hb.mono HB.out.size); clear hb HM))
    go_ret
    exact ⟨ret_bool (by simp), HB2.out⟩
set_option maxHeartbeats 1000000 in
theorem refMeet_any (ao : Option Addr) (cap : Nat) (xs : List O) (i j : Int) (w : World) (h : OpsAt w ao xs) :
    Calls Try.prog 9 #[.slice ao xs.length cap, .int .i64 i, .int .i64 j] w fun e w' => e = .returned (.bool (meetB xs i j)) ∧ Below w.heap.size w w' := by
  have HP : Hid (Calls Try.prog 18 #[.slice ao xs.length cap, .int .i64 i, .int .i64 j] w fun e w' => e = .returned (.bool (pairB xs i j)) ∧ Below w.heap.size w w') := two_any ao cap xs i j w h
  have hdef : meetB xs i j = (decide (i < j) && pairB xs i j && may (atL xs i) (atL xs j) (cut xs i j)) := rfl
  rw [hdef]
  clear hdef
  by_cases hij : i < j
  rotate_left
  · rw [decide_eq_false hij]
    have hij2 : j ≤ i := by omega
    clear h HP hij
    go_enter Try.func9, Try.ntmps9
    go_wp2_with fail
    go_ret
    exact ⟨rfl, Below.refl _ _⟩
  rw [decide_eq_true hij]
  cases hp : pairB xs i j
  · rw [hp] at HP
    clear h hp
    go_enter Try.func9, Try.ntmps9
    go_wp2_with (first | (go_at_call 18; refine Calls.mono HP.out ?_; rintro e w1 ⟨rfl, hb⟩))
    go_ret
    exact ⟨rfl, hb⟩
  · rw [hp] at HP
    obtain ⟨k, m, hk, hm, rfl, rfl⟩ := pair_in hp
    rw [atL_at hk, atL_at hm]
    obtain ⟨b, f, rfl, hz, hx⟩ := h.is (by omega)
    have HM : Hid (∀ W, Below w.heap.size w W → Calls Try.prog 19 #[.slice (some ⟨b, f, none⟩) xs.length cap, .int .i64 k, .int .i64 m, .int .i64 k, .int .i64 m] W fun e w' => e = .returned (.bool (!may xs[k] xs[m] (cut xs k m))) ∧ Below W.heap.size W w') := fun W hb => apart_any b f cap xs k m k m W (h.below hb) hk hm (by omega) (by omega)
    clear h hp hx
    generalize may xs[k] xs[m] (cut xs k m) = v at *
    go_enter Try.func9, Try.ntmps9
    go_wp2_with (first | (go_at_call 18; refine Calls.mono HP.out ?_; rintro e w1 ⟨rfl, hb⟩; have HB : Hid (Below w.heap.size w w1) := hb; clear hb HP) | (go_at_call 19; refine Calls.mono (HM.out _ HB.out) ?_; rintro e w2 ⟨rfl, hb⟩; have HB2 : Hid (Below w.heap.size w w2) := HB.out.trans (hb.mono HB.out.size); clear hb HM))
    go_ret
    exact ⟨ret_bool (by simp), HB2.out⟩
theorem row_cap {w : World} {B c : Nat} {a : Option Addr} {xs : List O} (h : w.ownsRow B 40 5 (.slice a xs.length c) xs.length (ocells xs)) : xs.length ≤ c := by
  rcases h.2 with ⟨_, h1⟩ | ⟨g, cap, cur, h1, h2, h3, h4, _⟩
  · omega
  · injection h1 with e1 e2 e3; omega
set_option maxHeartbeats 2000000 in
theorem law_tells (ao : Option Addr) (cap : Nat) (xs : List O) (i j : Int) (w : World) (h : OpsAt w ao xs) :
    Calls Try.prog 3 #[.slice ao xs.length cap, .int .i64 i, .int .i64 j] w fun e w' => e = .returned (.bool true) ∧ Below w.heap.size w w' := by
  have HW : Hid (∀ W, Calls Try.prog 6 #[] W fun e w' => e = .returned (.bool true) ∧ Below W.heap.size W w') := wakes_any
  by_cases hl : 8192 < xs.length
  · have hli : (8192 : Int) < xs.length := by omega
    clear h hl
    go_enter Try.func3, Try.ntmps3
    go_wp2_with (first | (go_at_call 6; refine Calls.mono (HW.out _) ?_; rintro e w1 ⟨rfl, hb⟩))
    go_ret
    exact ⟨rfl, hb⟩
  · have hli : (xs.length : Int) ≤ 8192 := by omega
    have HCp : Hid (Calls Try.prog 7 #[.slice ao xs.length cap] w fun e w' => ∃ a c, e = .returned (.slice a xs.length c) ∧ (OpsAt w' a xs ∧ xs.length ≤ c) ∧ Below w.heap.size w w') := (copiedOps_any ao cap xs w h (by omega)).mono fun e w' ⟨a, c, h1, h2, h3⟩ => ⟨a, c, h1, ⟨opsAt_row h2 h.ok (by omega), row_cap h2⟩, h3⟩
    have HMr : Hid (∀ W, Below w.heap.size w W → Calls Try.prog 9 #[.slice ao xs.length cap, .int .i64 i, .int .i64 j] W fun e w' => e = .returned (.bool (meetB xs i j)) ∧ Below W.heap.size W w') := fun W hb => refMeet_any ao cap xs i j W (h.below hb)
    have HRr : Hid (∀ W, Below w.heap.size w W → Calls Try.prog 11 #[.slice ao xs.length cap, .int .i64 i, .int .i64 j] W fun e w' => e = .returned (.bool (roundB xs i j)) ∧ Below W.heap.size W w') := fun W hb => refRound_any ao cap xs i j W (h.below hb)
    have HO : Hid (OpsAt w ao xs) := h
    clear h hl
    go_enter Try.func3, Try.ntmps3
    go_wp2_with (first
      | (go_at_call 7; refine Calls.mono HCp.out ?_; rintro e w1 ⟨a, c, rfl, ho, hb⟩; have HA : Hid (OpsAt w1 a xs ∧ xs.length ≤ c) := ho; have HB1 : Hid (Below w.heap.size w w1) := hb; clear hb ho HCp)
      | (go_at_call 8; refine Calls.mono (meet_any a c xs i j _ HA.out.1 HA.out.2) ?_; rintro e w2 ⟨rfl, hb⟩; have HA2 : Hid (OpsAt w2 a xs ∧ xs.length ≤ c) := ⟨HA.out.1.below hb, HA.out.2⟩; have HB2 : Hid (Below w.heap.size w w2) := HB1.out.trans (hb.mono HB1.out.size); clear hb HA)
      | (go_at_call 9; refine Calls.mono (HMr.out _ HB2.out) ?_; rintro e w3 ⟨rfl, hb⟩; have HA3 : Hid (OpsAt w3 a xs ∧ xs.length ≤ c) := ⟨HA2.out.1.below hb, HA2.out.2⟩; have HB3 : Hid (Below w.heap.size w w3) := HB2.out.trans (hb.mono HB2.out.size); clear hb HA2 HMr)
      | (go_at_call 10; refine Calls.mono (round_any a c xs i j _ HA3.out.1) ?_; rintro e w4 ⟨rfl, hb⟩; have HA4 : Hid (OpsAt w4 a xs ∧ xs.length ≤ c) := ⟨HA3.out.1.below hb, HA3.out.2⟩; have HB4 : Hid (Below w.heap.size w w4) := HB3.out.trans (hb.mono HB3.out.size); clear hb HA3)
      | (go_at_call 11; refine Calls.mono (HRr.out _ HB4.out) ?_; rintro e w5 ⟨rfl, hb⟩; have HA5 : Hid (OpsAt w5 a xs ∧ xs.length ≤ c) := ⟨HA4.out.1.below hb, HA4.out.2⟩; have HB5 : Hid (Below w.heap.size w w5) := HB4.out.trans (hb.mono HB4.out.size); clear hb HA4 HRr)
      | (go_at_call 12; refine Calls.mono (likeOps_any a ao c cap xs _ HA5.out.1 (HO.out.below HB5.out)) ?_; rintro e w6 ⟨rfl, hb⟩; have HB6 : Hid (Below w.heap.size w w6) := HB5.out.trans (hb.mono HB5.out.size); clear hb HA5)
      | (go_at_call 6; refine Calls.mono (HW.out _) ?_; rintro e w7 ⟨rfl, hb⟩; have HB7 : Hid (Below w.heap.size w w7) := HB6.out.trans (hb.mono HB6.out.size); clear hb HW))
    go_ret
    exact ⟨rfl, HB7.out⟩
end Go.Proofs.Ytehohblcildieaa.Al
