/- What package alias answers of two places (Meet, Round), read off the program by the walk. Conditions: the list lies in memory. -/
import Derived.Test.YthdpgimdakmdgaaDoorAc
namespace Go.Proofs.YthdpgimdakmdgaaDoor.Al
open Go.ChangeShapes Go.WideShapes Go.ChangeAt Go.RowKit
open _root_.Go.Proofs.YthdpgimdakmdgaaDoor.Op
set_option maxRecDepth 20000

theorem pair_in {xs : List O} {i j : Int} (h : pairB xs i j = true) : ∃ k m : Nat, k < xs.length ∧ m < xs.length ∧ i = k ∧ j = m := by
  unfold pairB at h
  simp only [Bool.and_eq_true] at h
  obtain ⟨k, hk, rfl⟩ := memB_in h.1.1
  obtain ⟨m, hm, rfl⟩ := memB_in h.1.2
  exact ⟨k, m, hk, hm, rfl, rfl⟩
set_option maxHeartbeats 4000000 in
theorem round_any (ao : Option Addr) (cap : Nat) (xs : List O) (i j : Int) (w : World) (h : OpsAt w ao xs) :
    Calls Tryd.prog 46 #[.slice ao xs.length cap, .int .i64 i, .int .i64 j] w fun e w' => e = .returned (.bool (roundB xs i j)) ∧ Below w.heap.size w w' := by
  have HP : Hid (Calls Tryd.prog 69 #[.slice ao xs.length cap, .int .i64 i, .int .i64 j] w fun e w' => e = .returned (.bool (pairB xs i j)) ∧ Below w.heap.size w w') := isPair_any ao cap xs i j w h
  have hdef : roundB xs i j = (pairB xs i j && may (atL xs i) (atL xs j) xs) := rfl
  rw [hdef]
  clear hdef
  cases hp : pairB xs i j
  · rw [hp] at HP
    clear h hp
    go_enter Tryd.func46, Tryd.ntmps46
    go_wp2_with (first | (go_at_call 69; refine Calls.mono HP.out ?_; rintro e w1 ⟨rfl, hb⟩))
    go_ret
    exact ⟨rfl, hb⟩
  · rw [hp] at HP
    obtain ⟨k, m, hk, hm, rfl, rfl⟩ := pair_in hp
    rw [atL_at hk, atL_at hm]
    obtain ⟨b, f, rfl, hz, hx⟩ := h.is (by omega)
    have hki : (k : Int) < xs.length := by omega
    have hmi : (m : Int) < xs.length := by omega
    have hlen := h.len
    have HX : Hid (∀ W, Below w.heap.size w W → OAt W b (f + k * 5) xs[k] ∧ OAt W b (f + m * 5) xs[m]) := fun W hb => ⟨(hx k hk).below hb hz, (hx m hm).below hb hz⟩
    have HM : Hid (∀ W c, Below w.heap.size w W → W.cell? ⟨c, 0, none⟩ = some (.slice (some ⟨b, f, none⟩) xs.length cap) → c < W.heap.size → Calls Tryd.prog 70 #[xs[k].val, xs[m].val, .func (.func 78) #[] #[.pointer (some ⟨c, 0, none⟩)]] W fun e w' => e = .returned (.bool (may xs[k] xs[m] xs)) ∧ Below W.heap.size W w') := fun W c hb h1 h2 => mayBe_any _ _ _ cap c xs W (h.below hb) h1 h2
    clear h hp hx
    generalize xs[k] = x at *
    generalize xs[m] = y at *
    go_enter Tryd.func46, Tryd.ntmps46
    go_wp2_with (first | (go_at_call 69; refine Calls.mono HP.out ?_; rintro e w1 ⟨rfl, hb⟩; have HB : Hid (Below w.heap.size w w1) := hb; clear hb HP))
    have HB : Hid (Below w.heap.size w w1.drew) := HB.out.drew
    have HX2 : Hid (∀ W, Below w.heap.size w W → W.cell? ⟨b, f + k * 5, none⟩ = some (.int .i8 x.op) ∧ W.cell? ⟨b, f + k * 5 + 1, none⟩ = some (.int .u8 x.d) ∧ W.cell? ⟨b, f + k * 5 + 2, none⟩ = some (.int .u8 x.a) ∧ W.cell? ⟨b, f + k * 5 + 3, none⟩ = some (.int .u8 x.b) ∧ W.cell? ⟨b, f + k * 5 + 4, none⟩ = some (.int .i64 x.im) ∧ W.cell? ⟨b, f + m * 5, none⟩ = some (.int .i8 y.op) ∧ W.cell? ⟨b, f + m * 5 + 1, none⟩ = some (.int .u8 y.d) ∧ W.cell? ⟨b, f + m * 5 + 2, none⟩ = some (.int .u8 y.a) ∧ W.cell? ⟨b, f + m * 5 + 3, none⟩ = some (.int .u8 y.b) ∧ W.cell? ⟨b, f + m * 5 + 4, none⟩ = some (.int .i64 y.im)) := fun W hb => ⟨(HX.out W hb).1.c0, (HX.out W hb).1.c1, (HX.out W hb).1.c2, (HX.out W hb).1.c3, (HX.out W hb).1.c4, (HX.out W hb).2.c0, (HX.out W hb).2.c1, (HX.out W hb).2.c2, (HX.out W hb).2.c3, (HX.out W hb).2.c4⟩
    clear HX
    go_region_held3 (fun w' => w'.cell? ⟨b, f + k * 5, none⟩ = some (.int .i8 x.op) ∧ w'.cell? ⟨b, f + k * 5 + 1, none⟩ = some (.int .u8 x.d) ∧ w'.cell? ⟨b, f + k * 5 + 2, none⟩ = some (.int .u8 x.a) ∧ w'.cell? ⟨b, f + k * 5 + 3, none⟩ = some (.int .u8 x.b) ∧ w'.cell? ⟨b, f + k * 5 + 4, none⟩ = some (.int .i64 x.im) ∧ w'.cell? ⟨b, f + m * 5, none⟩ = some (.int .i8 y.op) ∧ w'.cell? ⟨b, f + m * 5 + 1, none⟩ = some (.int .u8 y.d) ∧ w'.cell? ⟨b, f + m * 5 + 2, none⟩ = some (.int .u8 y.a) ∧ w'.cell? ⟨b, f + m * 5 + 3, none⟩ = some (.int .u8 y.b) ∧ w'.cell? ⟨b, f + m * 5 + 4, none⟩ = some (.int .i64 y.im))
      (first | exact HX2.out _ HB.out | go_keep)
      (first
       | (go_at_call 71; refine Calls.mono (writer_any _ _ _ _) ?_; rintro e w2 ⟨rfl, hw2⟩; have HC : Hid (w2.cell? ⟨w1.drew.heap.size, 0, none⟩ = some (.slice (some ⟨b, f, none⟩) xs.length cap) ∧ w1.drew.heap.size < w2.heap.size) := (by rw [hw2]; exact ⟨(At.new w1.drew #[.slice (some ⟨b, f, none⟩) xs.length cap] 22).c 0 _ rfl, (At.new w1.drew #[.slice (some ⟨b, f, none⟩) xs.length cap] 22).lt⟩); have HB : Hid (Below w.heap.size w w2) := (by rw [hw2]; exact HB.out.alloc HB.out.size _); clear hw2)
       | (go_at_call 70; refine Calls.mono (HM.out _ _ HB.out HC.out.1 HC.out.2) ?_; rintro e w3 ⟨rfl, hb⟩; have HB : Hid (Below w.heap.size w w3) := HB.out.trans (hb.mono HB.out.size); clear hb))
    go_wp2_with fail
    go_ret
    exact ⟨ret_bool (by simp), HB.out⟩
theorem ops_cut {w : World} {b f k m : Nat} {xs : List O} (h : OpsAt w (some ⟨b, f, none⟩) xs) (hkm : k < m) (hm : m < xs.length) : OpsAt w (some ⟨b, f + k * 5, none⟩) (cut xs k m) := by
  have hkl : (cut xs (k : Int) (m : Int)).length = m - k := by unfold cut; simp; omega
  refine ⟨fun o ho => h.ok o (cut_sub ho), by have := h.len; omega, fun _ => ?_⟩
  obtain ⟨b', f', e, hz, hx⟩ := h.is (by omega)
  cases e
  refine ⟨b, f + k * 5, rfl, hz, fun i hi => ?_⟩
  have hi' : k + i < xs.length := by omega
  have e1 : (cut xs (k : Int) (m : Int))[i] = xs[k + i] := by unfold cut; simp
  have := hx (k + i) hi'
  rw [show f + (k + i) * 5 = f + k * 5 + i * 5 by omega] at this
  rw [e1]; exact this
set_option maxHeartbeats 4000000 in
theorem meet_any (ao : Option Addr) (cap : Nat) (xs : List O) (i j : Int) (w : World) (h : OpsAt w ao xs) (hcap : xs.length ≤ cap) :
    Calls Tryd.prog 44 #[.slice ao xs.length cap, .int .i64 i, .int .i64 j] w fun e w' => e = .returned (.bool (meetB xs i j)) ∧ Below w.heap.size w w' := by
  have HP : Hid (Calls Tryd.prog 69 #[.slice ao xs.length cap, .int .i64 i, .int .i64 j] w fun e w' => e = .returned (.bool (pairB xs i j)) ∧ Below w.heap.size w w') := isPair_any ao cap xs i j w h
  have hdef : meetB xs i j = (decide (i < j) && pairB xs i j && may (atL xs i) (atL xs j) (cut xs i j)) := rfl
  rw [hdef]
  clear hdef
  by_cases hij : i < j
  rotate_left
  · rw [decide_eq_false hij]
    have hij2 : j ≤ i := by omega
    clear h HP hij
    go_enter Tryd.func44, Tryd.ntmps44
    go_wp2_with fail
    go_ret
    exact ⟨rfl, Below.refl _ _⟩
  rw [decide_eq_true hij]
  cases hp : pairB xs i j
  · rw [hp] at HP
    clear h hp
    go_enter Tryd.func44, Tryd.ntmps44
    go_wp2_with (first | (go_at_call 69; refine Calls.mono HP.out ?_; rintro e w1 ⟨rfl, hb⟩))
    go_ret
    exact ⟨rfl, hb⟩
  · rw [hp] at HP
    obtain ⟨k, m, hk, hm, rfl, rfl⟩ := pair_in hp
    rw [atL_at hk, atL_at hm]
    obtain ⟨b, f, rfl, hz, hx⟩ := h.is (by omega)
    have hki : (k : Int) < xs.length := by omega
    have hmi : (m : Int) < xs.length := by omega
    have hlen := h.len
    have HX : Hid (∀ W, Below w.heap.size w W → OAt W b (f + k * 5) xs[k] ∧ OAt W b (f + m * 5) xs[m]) := fun W hb => ⟨(hx k hk).below hb hz, (hx m hm).below hb hz⟩
    have hkm : k < m := by omega
    have hi0 : (0 : Int) ≤ (k : Int) := by omega
    have hi1 : (k : Int) ≤ (m : Int) := by omega
    have hi2 : (m : Int) ≤ (cap : Int) := by omega
    have hi3 : ¬ cap = k := by omega
    have hkl : (cut xs (k : Int) (m : Int)).length = m - k := by unfold cut; simp; omega
    have HM : Hid (∀ W c, Below w.heap.size w W → W.cell? ⟨c, 0, none⟩ = some (.slice (some ⟨b, f + k * 5, none⟩) (m - k) (cap - k)) → c < W.heap.size → Calls Tryd.prog 70 #[xs[k].val, xs[m].val, .func (.func 78) #[] #[.pointer (some ⟨c, 0, none⟩)]] W fun e w' => e = .returned (.bool (may xs[k] xs[m] (cut xs k m))) ∧ Below W.heap.size W w') := fun W c hb h1 h2 => mayBe_any _ _ _ (cap - k) c (cut xs k m) W (ops_cut (h.below hb) hkm hm) (by rw [hkl]; exact h1) h2
    clear h hp hx hkl
    generalize hcut : cut xs (k : Int) (m : Int) = st at *
    clear hcut
    generalize xs[k] = x at *
    generalize xs[m] = y at *
    go_enter Tryd.func44, Tryd.ntmps44
    go_wp2_with (first | (go_at_call 69; refine Calls.mono HP.out ?_; rintro e w1 ⟨rfl, hb⟩; have HB : Hid (Below w.heap.size w w1) := hb; clear hb HP))
    have HB : Hid (Below w.heap.size w w1.drew) := HB.out.drew
    have HX2 : Hid (∀ W, Below w.heap.size w W → W.cell? ⟨b, f + k * 5, none⟩ = some (.int .i8 x.op) ∧ W.cell? ⟨b, f + k * 5 + 1, none⟩ = some (.int .u8 x.d) ∧ W.cell? ⟨b, f + k * 5 + 2, none⟩ = some (.int .u8 x.a) ∧ W.cell? ⟨b, f + k * 5 + 3, none⟩ = some (.int .u8 x.b) ∧ W.cell? ⟨b, f + k * 5 + 4, none⟩ = some (.int .i64 x.im) ∧ W.cell? ⟨b, f + m * 5, none⟩ = some (.int .i8 y.op) ∧ W.cell? ⟨b, f + m * 5 + 1, none⟩ = some (.int .u8 y.d) ∧ W.cell? ⟨b, f + m * 5 + 2, none⟩ = some (.int .u8 y.a) ∧ W.cell? ⟨b, f + m * 5 + 3, none⟩ = some (.int .u8 y.b) ∧ W.cell? ⟨b, f + m * 5 + 4, none⟩ = some (.int .i64 y.im)) := fun W hb => ⟨(HX.out W hb).1.c0, (HX.out W hb).1.c1, (HX.out W hb).1.c2, (HX.out W hb).1.c3, (HX.out W hb).1.c4, (HX.out W hb).2.c0, (HX.out W hb).2.c1, (HX.out W hb).2.c2, (HX.out W hb).2.c3, (HX.out W hb).2.c4⟩
    clear HX
    go_region_held3 (fun w' => w'.cell? ⟨b, f + k * 5, none⟩ = some (.int .i8 x.op) ∧ w'.cell? ⟨b, f + k * 5 + 1, none⟩ = some (.int .u8 x.d) ∧ w'.cell? ⟨b, f + k * 5 + 2, none⟩ = some (.int .u8 x.a) ∧ w'.cell? ⟨b, f + k * 5 + 3, none⟩ = some (.int .u8 x.b) ∧ w'.cell? ⟨b, f + k * 5 + 4, none⟩ = some (.int .i64 x.im) ∧ w'.cell? ⟨b, f + m * 5, none⟩ = some (.int .i8 y.op) ∧ w'.cell? ⟨b, f + m * 5 + 1, none⟩ = some (.int .u8 y.d) ∧ w'.cell? ⟨b, f + m * 5 + 2, none⟩ = some (.int .u8 y.a) ∧ w'.cell? ⟨b, f + m * 5 + 3, none⟩ = some (.int .u8 y.b) ∧ w'.cell? ⟨b, f + m * 5 + 4, none⟩ = some (.int .i64 y.im))
      (first | exact HX2.out _ HB.out | go_keep)
      (first
       | (go_at_call 71; refine Calls.mono (writer_any _ _ _ _) ?_; rintro e w2 ⟨rfl, hw2⟩; have HC : Hid (w2.cell? ⟨w1.drew.heap.size, 0, none⟩ = some (.slice (some ⟨b, f + k * 5, none⟩) (m - k) (cap - k)) ∧ w1.drew.heap.size < w2.heap.size) := (by rw [hw2]; exact ⟨(At.new w1.drew #[.slice (some ⟨b, f + k * 5, none⟩) (m - k) (cap - k)] 22).c 0 _ rfl, (At.new w1.drew #[.slice (some ⟨b, f + k * 5, none⟩) (m - k) (cap - k)] 22).lt⟩); have HB : Hid (Below w.heap.size w w2) := (by rw [hw2]; exact HB.out.alloc HB.out.size _); clear hw2)
       | (go_at_call 70; refine Calls.mono (HM.out _ _ HB.out HC.out.1 HC.out.2) ?_; rintro e w3 ⟨rfl, hb⟩; have HB : Hid (Below w.heap.size w w3) := HB.out.trans (hb.mono HB.out.size); clear hb))
    go_wp2_with fail
    go_ret
    exact ⟨ret_bool (by simp), HB.out⟩
end Go.Proofs.YthdpgimdakmdgaaDoor.Al
