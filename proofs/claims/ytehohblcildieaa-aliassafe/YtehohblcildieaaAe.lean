/- The statement AliasRounds: out of what the callees answer. Conditions: the list lies in memory. -/
import Derived.Test.YtehohblcildieaaAd
namespace Go.Proofs.Ytehohblcildieaa.Al
open Go.ChangeShapes Go.WideShapes Go.ChangeAt Go.RowKit
open _root_.Go.Proofs.Ytehohblcildieaa.Op
set_option maxRecDepth 20000

def wk : List O := [⟨15, 1, 2, 0, 8⟩, ⟨16, 0, 2, 3, 9⟩, ⟨16, 0, 2, 3, 264⟩, ⟨2, 2, 2, 4, 0⟩, ⟨16, 0, 2, 3, 9⟩]
theorem wk_ok : ∀ o ∈ wk, o.Ok := by
  intro o ho
  simp only [wk, List.mem_cons, List.not_mem_nil, or_false] at ho
  rcases ho with rfl | rfl | rfl | rfl | rfl <;> exact ⟨by decide, by decide, by decide, by decide, by decide, by decide, by decide, by decide, by decide, by decide⟩
theorem wk_m1 : meetB wk 0 1 = false := by decide
theorem wk_m2 : meetB wk 0 2 = true := by decide
theorem wk_m3 : meetB wk 0 4 = true := by decide
theorem wk_m4 : meetB wk 1 0 = false := by decide
theorem wk_m5 : meetB wk 0 0 = false := by decide
theorem wk_r1 : roundB wk 0 1 = true := by decide
theorem wk_r2 : roundB (wk.take 3) 0 1 = false := by decide
theorem wk_r3 : roundB (wk.take 3) 1 1 = true := by decide
abbrev wkC : Array Value := #[.int .i8 15, .int .u8 1, .int .u8 2, .int .u8 0, .int .i64 8, .int .i8 16, .int .u8 0, .int .u8 2, .int .u8 3, .int .i64 9, .int .i8 16, .int .u8 0, .int .u8 2, .int .u8 3, .int .i64 264, .int .i8 2, .int .u8 2, .int .u8 2, .int .u8 4, .int .i64 0, .int .i8 16, .int .u8 0, .int .u8 2, .int .u8 3, .int .i64 9]
theorem wk_at (w : World) : OpsAt (w.alloc (.cells wkC 40)) (some ⟨w.heap.size, 0, none⟩) wk := by
  have hA := At.new w wkC 40
  refine ⟨wk_ok, by decide, fun _ => ⟨w.heap.size, 0, rfl, hA.lt, fun i hi => ?_⟩⟩
  match i, hi with
  | 0, _ => exact ⟨hA.c 0 _ rfl, hA.c 1 _ rfl, hA.c 2 _ rfl, hA.c 3 _ rfl, hA.c 4 _ rfl⟩
  | 1, _ => exact ⟨hA.c 5 _ rfl, hA.c 6 _ rfl, hA.c 7 _ rfl, hA.c 8 _ rfl, hA.c 9 _ rfl⟩
  | 2, _ => exact ⟨hA.c 10 _ rfl, hA.c 11 _ rfl, hA.c 12 _ rfl, hA.c 13 _ rfl, hA.c 14 _ rfl⟩
  | 3, _ => exact ⟨hA.c 15 _ rfl, hA.c 16 _ rfl, hA.c 17 _ rfl, hA.c 18 _ rfl, hA.c 19 _ rfl⟩
  | 4, _ => exact ⟨hA.c 20 _ rfl, hA.c 21 _ rfl, hA.c 22 _ rfl, hA.c 23 _ rfl, hA.c 24 _ rfl⟩
  | _ + 5, h => exact absurd h (by simp [wk])
theorem wk_at3 (w : World) : OpsAt (w.alloc (.cells wkC 40)) (some ⟨w.heap.size, 0, none⟩) (wk.take 3) := by
  refine ⟨fun o ho => wk_ok o (List.mem_of_mem_take ho), by decide, fun _ => ?_⟩
  obtain ⟨b, f, e, hz, hx⟩ := (wk_at w).is (by decide)
  refine ⟨b, f, e, hz, fun i hi => ?_⟩
  have hi5 : i < wk.length := by simp [wk] at hi ⊢; omega
  have := hx i hi5
  rw [List.getElem_take]
  exact this
set_option maxHeartbeats 2000000 in
theorem wakes_any (w : World) : Calls Try.prog 6 #[] w fun e w' => e = .returned (.bool true) ∧ Below w.heap.size w w' := by
  have HM0 : Hid (∀ W, Below (w.alloc (.cells wkC 40)).heap.size (w.alloc (.cells wkC 40)) W → Calls Try.prog 8 #[.slice (some ⟨w.heap.size, 0, none⟩) 5 5, .int .i64 0, .int .i64 1] W fun e w' => e = .returned (.bool false) ∧ Below W.heap.size W w') := fun W hb => by
    have := meet_any (some ⟨w.heap.size, 0, none⟩) 5 wk 0 1 W ((wk_at w).below hb) (by decide)
    rw [wk_m1] at this
    exact this
  have HM1 : Hid (∀ W, Below (w.alloc (.cells wkC 40)).heap.size (w.alloc (.cells wkC 40)) W → Calls Try.prog 8 #[.slice (some ⟨w.heap.size, 0, none⟩) 5 5, .int .i64 0, .int .i64 2] W fun e w' => e = .returned (.bool true) ∧ Below W.heap.size W w') := fun W hb => by
    have := meet_any (some ⟨w.heap.size, 0, none⟩) 5 wk 0 2 W ((wk_at w).below hb) (by decide)
    rw [wk_m2] at this
    exact this
  have HM2 : Hid (∀ W, Below (w.alloc (.cells wkC 40)).heap.size (w.alloc (.cells wkC 40)) W → Calls Try.prog 8 #[.slice (some ⟨w.heap.size, 0, none⟩) 5 5, .int .i64 0, .int .i64 4] W fun e w' => e = .returned (.bool true) ∧ Below W.heap.size W w') := fun W hb => by
    have := meet_any (some ⟨w.heap.size, 0, none⟩) 5 wk 0 4 W ((wk_at w).below hb) (by decide)
    rw [wk_m3] at this
    exact this
  have HM3 : Hid (∀ W, Below (w.alloc (.cells wkC 40)).heap.size (w.alloc (.cells wkC 40)) W → Calls Try.prog 8 #[.slice (some ⟨w.heap.size, 0, none⟩) 5 5, .int .i64 1, .int .i64 0] W fun e w' => e = .returned (.bool false) ∧ Below W.heap.size W w') := fun W hb => by
    have := meet_any (some ⟨w.heap.size, 0, none⟩) 5 wk 1 0 W ((wk_at w).below hb) (by decide)
    rw [wk_m4] at this
    exact this
  have HM4 : Hid (∀ W, Below (w.alloc (.cells wkC 40)).heap.size (w.alloc (.cells wkC 40)) W → Calls Try.prog 8 #[.slice (some ⟨w.heap.size, 0, none⟩) 5 5, .int .i64 0, .int .i64 0] W fun e w' => e = .returned (.bool false) ∧ Below W.heap.size W w') := fun W hb => by
    have := meet_any (some ⟨w.heap.size, 0, none⟩) 5 wk 0 0 W ((wk_at w).below hb) (by decide)
    rw [wk_m5] at this
    exact this
  have HM5 : Hid (∀ W, Below (w.alloc (.cells wkC 40)).heap.size (w.alloc (.cells wkC 40)) W → Calls Try.prog 10 #[.slice (some ⟨w.heap.size, 0, none⟩) 5 5, .int .i64 0, .int .i64 1] W fun e w' => e = .returned (.bool true) ∧ Below W.heap.size W w') := fun W hb => by
    have := round_any (some ⟨w.heap.size, 0, none⟩) 5 wk 0 1 W ((wk_at w).below hb)
    rw [wk_r1] at this
    exact this
  have HM6 : Hid (∀ W, Below (w.alloc (.cells wkC 40)).heap.size (w.alloc (.cells wkC 40)) W → Calls Try.prog 10 #[.slice (some ⟨w.heap.size, 0, none⟩) 3 5, .int .i64 0, .int .i64 1] W fun e w' => e = .returned (.bool false) ∧ Below W.heap.size W w') := fun W hb => by
    have := round_any (some ⟨w.heap.size, 0, none⟩) 5 (wk.take 3) 0 1 W ((wk_at3 w).below hb)
    rw [wk_r2] at this
    exact this
  have HM7 : Hid (∀ W, Below (w.alloc (.cells wkC 40)).heap.size (w.alloc (.cells wkC 40)) W → Calls Try.prog 10 #[.slice (some ⟨w.heap.size, 0, none⟩) 3 5, .int .i64 1, .int .i64 1] W fun e w' => e = .returned (.bool true) ∧ Below W.heap.size W w') := fun W hb => by
    have := round_any (some ⟨w.heap.size, 0, none⟩) 5 (wk.take 3) 1 1 W ((wk_at3 w).below hb)
    rw [wk_r3] at this
    exact this
  have HB0 : Hid (Below (w.alloc (.cells wkC 40)).heap.size (w.alloc (.cells wkC 40)) (w.alloc (.cells wkC 40))) := Below.refl _ _
  go_enter Try.func6, Try.ntmps6
  go_wp2_with (first
    | (go_at_call 8; refine Calls.mono (HM0.out _ HB0.out) ?_; rintro e w1 ⟨rfl, hb⟩; have HB1 : Hid (Below (w.alloc (.cells wkC 40)).heap.size (w.alloc (.cells wkC 40)) w1) := HB0.out.trans (hb.mono HB0.out.size); clear hb HM0)
    | (go_at_call 8; refine Calls.mono (HM1.out _ HB1.out) ?_; rintro e w2 ⟨rfl, hb⟩; have HB2 : Hid (Below (w.alloc (.cells wkC 40)).heap.size (w.alloc (.cells wkC 40)) w2) := HB1.out.trans (hb.mono HB1.out.size); clear hb HM1)
    | (go_at_call 8; refine Calls.mono (HM2.out _ HB2.out) ?_; rintro e w3 ⟨rfl, hb⟩; have HB3 : Hid (Below (w.alloc (.cells wkC 40)).heap.size (w.alloc (.cells wkC 40)) w3) := HB2.out.trans (hb.mono HB2.out.size); clear hb HM2)
    | (go_at_call 8; refine Calls.mono (HM3.out _ HB3.out) ?_; rintro e w4 ⟨rfl, hb⟩; have HB4 : Hid (Below (w.alloc (.cells wkC 40)).heap.size (w.alloc (.cells wkC 40)) w4) := HB3.out.trans (hb.mono HB3.out.size); clear hb HM3)
    | (go_at_call 8; refine Calls.mono (HM4.out _ HB4.out) ?_; rintro e w5 ⟨rfl, hb⟩; have HB5 : Hid (Below (w.alloc (.cells wkC 40)).heap.size (w.alloc (.cells wkC 40)) w5) := HB4.out.trans (hb.mono HB4.out.size); clear hb HM4)
    | (go_at_call 10; refine Calls.mono (HM5.out _ HB5.out) ?_; rintro e w6 ⟨rfl, hb⟩; have HB6 : Hid (Below (w.alloc (.cells wkC 40)).heap.size (w.alloc (.cells wkC 40)) w6) := HB5.out.trans (hb.mono HB5.out.size); clear hb HM5)
    | (go_at_call 10; refine Calls.mono (HM6.out _ HB6.out) ?_; rintro e w7 ⟨rfl, hb⟩; have HB7 : Hid (Below (w.alloc (.cells wkC 40)).heap.size (w.alloc (.cells wkC 40)) w7) := HB6.out.trans (hb.mono HB6.out.size); clear hb HM6)
    | (go_at_call 10; refine Calls.mono (HM7.out _ HB7.out) ?_; rintro e w8 ⟨rfl, hb⟩; have HB8 : Hid (Below (w.alloc (.cells wkC 40)).heap.size (w.alloc (.cells wkC 40)) w8) := HB7.out.trans (hb.mono HB7.out.size); clear hb HM7))
  go_ret
  exact ⟨rfl, ((Below.refl _ w).alloc (Nat.le_refl _) (.cells wkC 40)).trans (HB8.out.mono (by simp))⟩

set_option maxHeartbeats 2000000 in
theorem law_rounds (ao : Option Addr) (cap : Nat) (xs : List O) (i j : Int) (w : World) (h : OpsAt w ao xs) (hcap : xs.length ≤ cap) :
    Calls Try.prog 5 #[.slice ao xs.length cap, .int .i64 i, .int .i64 j] w fun e w' => e = .returned (.bool true) ∧ Below w.heap.size w w' := by
  have HW : Hid (∀ W, Calls Try.prog 6 #[] W fun e w' => e = .returned (.bool true) ∧ Below W.heap.size W w') := wakes_any
  by_cases hl : 8192 < xs.length
  · have hli : (8192 : Int) < xs.length := by omega
    clear h hcap hl
    go_enter Try.func5, Try.ntmps5
    go_wp2_with (first | (go_at_call 6; refine Calls.mono (HW.out _) ?_; rintro e w1 ⟨rfl, hb⟩))
    go_ret
    exact ⟨rfl, hb⟩
  · have hli : (xs.length : Int) ≤ 8192 := by omega
    have HR1 : Hid (∀ W, Below w.heap.size w W → Calls Try.prog 10 #[.slice ao xs.length cap, .int .i64 i, .int .i64 j] W fun e w' => e = .returned (.bool (roundB xs i j)) ∧ Below W.heap.size W w') := fun W hb => round_any ao cap xs i j W (h.below hb)
    have HR2 : Hid (∀ W, Below w.heap.size w W → Calls Try.prog 10 #[.slice ao xs.length cap, .int .i64 j, .int .i64 i] W fun e w' => e = .returned (.bool (roundB xs i j)) ∧ Below W.heap.size W w') := fun W hb => by
      have := round_any ao cap xs j i W (h.below hb)
      rw [round_comm] at this
      exact this
    have HR3 : Hid (∀ W, Below w.heap.size w W → Calls Try.prog 10 #[.slice ao xs.length cap, .int .i64 i, .int .i64 j] W fun e w' => e = .returned (.bool (roundB xs i j)) ∧ Below W.heap.size W w') := fun W hb => round_any ao cap xs i j W (h.below hb)
    have HMt : Hid (∀ W, Below w.heap.size w W → Calls Try.prog 8 #[.slice ao xs.length cap, .int .i64 i, .int .i64 j] W fun e w' => e = .returned (.bool (meetB xs i j)) ∧ Below W.heap.size W w') := fun W hb => meet_any ao cap xs i j W (h.below hb) hcap
    have hmr : roundB xs i j = false → meetB xs i j = false := fun e => by
      cases hm : meetB xs i j
      · rfl
      · rw [meet_round hm] at e; cases e
    clear h hcap hl
    cases hr : roundB xs i j
    · rw [hr] at HR1 HR2 HR3
      rw [hmr hr] at HMt
      clear hr hmr
      go_enter Try.func5, Try.ntmps5
      go_wp2_with (first
        | (go_at_call 10; refine Calls.mono (HR1.out _ (Below.refl _ _)) ?_; rintro e w1 ⟨rfl, hb⟩; have HB1 : Hid (Below w.heap.size w w1) := hb; clear hb HR1)
        | (go_at_call 10; refine Calls.mono (HR2.out _ HB1.out) ?_; rintro e w2 ⟨rfl, hb⟩; have HB2 : Hid (Below w.heap.size w w2) := HB1.out.trans (hb.mono HB1.out.size); clear hb HR2)
        | (go_at_call 10; refine Calls.mono (HR3.out _ HB2.out) ?_; rintro e w3 ⟨rfl, hb⟩; have HB3 : Hid (Below w.heap.size w w3) := HB2.out.trans (hb.mono HB2.out.size); clear hb HR3)
        | (go_at_call 8; refine Calls.mono (HMt.out _ HB3.out) ?_; rintro e w4 ⟨rfl, hb⟩; have HB4 : Hid (Below w.heap.size w w4) := HB3.out.trans (hb.mono HB3.out.size); clear hb HMt)
        | (go_at_call 6; refine Calls.mono (HW.out _) ?_; rintro e w5 ⟨rfl, hb⟩; have HB5 : Hid (Below w.heap.size w w5) := HB4.out.trans (hb.mono HB4.out.size); clear hb HW))
      go_ret
      exact ⟨rfl, HB5.out⟩
    · rw [hr] at HR1 HR2 HR3
      clear hr hmr HMt
      go_enter Try.func5, Try.ntmps5
      go_wp2_with (first
        | (go_at_call 10; refine Calls.mono (HR1.out _ (Below.refl _ _)) ?_; rintro e w1 ⟨rfl, hb⟩; have HB1 : Hid (Below w.heap.size w w1) := hb; clear hb HR1)
        | (go_at_call 10; refine Calls.mono (HR2.out _ HB1.out) ?_; rintro e w2 ⟨rfl, hb⟩; have HB2 : Hid (Below w.heap.size w w2) := HB1.out.trans (hb.mono HB1.out.size); clear hb HR2)
        | (go_at_call 10; refine Calls.mono (HR3.out _ HB2.out) ?_; rintro e w3 ⟨rfl, hb⟩; have HB3 : Hid (Below w.heap.size w w3) := HB2.out.trans (hb.mono HB2.out.size); clear hb HR3)
        | (go_at_call 6; refine Calls.mono (HW.out _) ?_; rintro e w5 ⟨rfl, hb⟩; have HB5 : Hid (Below w.heap.size w w5) := HB3.out.trans (hb.mono HB3.out.size); clear hb HW))
      go_ret
      exact ⟨rfl, HB5.out⟩
end Go.Proofs.Ytehohblcildieaa.Al
