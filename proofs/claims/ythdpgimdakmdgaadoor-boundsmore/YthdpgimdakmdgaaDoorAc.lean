/- What package alias answers of places (isMemory, isPair, Meet, Round), read off the program by the walk. Conditions: the list lies in memory. -/
import Derived.Test.YthdpgimdakmdgaaDoorAb
import Derived.Deep.RegionHeld3
namespace Go.Proofs.YthdpgimdakmdgaaDoor.Al
open Go.ChangeShapes Go.WideShapes Go.ChangeAt Go.RowKit
open _root_.Go.Proofs.YthdpgimdakmdgaaDoor.Op
set_option maxRecDepth 20000

theorem ck_eq (o : O) : (ckE o == 0) = okO o := by unfold ckE; cases okO o <;> rfl
set_option maxHeartbeats 1000000 in
theorem isMem_any (ao : Option Addr) (cap : Nat) (xs : List O) (i : Int) (w : World) (h : OpsAt w ao xs) :
    Calls Tryd.prog 77 #[.slice ao xs.length cap, .int .i64 i] w fun e w' => e = .returned (.bool (memB xs i)) ∧ Below w.heap.size w w' := by
  cases hin : inL xs i
  · have hx : i < 0 ∨ (xs.length : Int) ≤ i := by
      unfold inL at hin
      simp at hin
      omega
    rw [memB_no hin]
    clear hin h
    rcases hx with hx | hx
    · go_enter Tryd.func77, Tryd.ntmps77
      go_wp2_with fail
      go_ret
      exact ⟨rfl, by go_grown⟩
    · by_cases h0 : i < 0
      · go_enter Tryd.func77, Tryd.ntmps77
        go_wp2_with fail
        go_ret
        exact ⟨rfl, by go_grown⟩
      · go_enter Tryd.func77, Tryd.ntmps77
        go_wp2_with fail
        go_ret
        exact ⟨rfl, by go_grown⟩
  · obtain ⟨k, hk, rfl⟩ := inL_iff.1 hin
    rw [memB_at hk]
    obtain ⟨b, f, rfl, hz, hx⟩ := h.is (by omega)
    obtain ⟨c0, c1, c2, c3, c4⟩ := hx k hk
    have hok := h.ok _ (List.getElem_mem hk)
    have hlen := h.len
    have hki : (k : Int) < xs.length := by omega
    have hk0 : ¬ (k : Int) < 0 := by omega
    clear h hx hin
    generalize xs[k] = o at *
    have HC : Hid (∀ W, Calls Tryd.prog 41 #[o.val] W fun e w' => e = .returned (.int .i64 (ckE o)) ∧ Below W.heap.size W w') := fun W => check_any o W hok
    have hdef : memO o = ((o.op == 15 || o.op == 16) && (ckE o == 0)) := by unfold memO; rw [ck_eq]
    rw [hdef]
    clear hdef hok
    by_cases h15 : o.op = 15
    · obtain ⟨p0, p1, x, p3, i1⟩ := o
      simp only at h15
      subst h15
      go_enter Tryd.func77, Tryd.ntmps77
      go_wp2_with (first | (go_at_call 41; refine Calls.mono (HC.out _) ?_; rintro e w1 ⟨rfl, hb⟩; obtain ⟨-, hb0, hz1⟩ := one_new w _ _ hb; have HB : Hid (Below w.heap.size w w1) := hb0; clear hb hb0))
      go_ret
      exact ⟨ret_bool (by simp), HB.out⟩
    · by_cases h16 : o.op = 16
      · obtain ⟨p0, p1, x, p3, i1⟩ := o
        simp only at h16
        subst h16
        clear h15
        go_enter Tryd.func77, Tryd.ntmps77
        go_wp2_with (first | (go_at_call 41; refine Calls.mono (HC.out _) ?_; rintro e w1 ⟨rfl, hb⟩; obtain ⟨-, hb0, hz1⟩ := one_new w _ _ hb; have HB : Hid (Below w.heap.size w w1) := hb0; clear hb hb0))
        go_ret
        exact ⟨ret_bool (by simp), HB.out⟩
      · have e1 : ((o.op == 15 || o.op == 16) && (ckE o == 0)) = false := by simp [h15, h16]
        rw [e1]
        have g1 : (o.op == 15) = false := by simpa using h15
        have g2 : (o.op == 16) = false := by simpa using h16
        clear e1
        go_enter Tryd.func77, Tryd.ntmps77
        go_wp2_with fail
        go_ret
        exact ⟨rfl, by go_grown⟩

set_option maxHeartbeats 1000000 in
theorem isPair_any (ao : Option Addr) (cap : Nat) (xs : List O) (i j : Int) (w : World) (h : OpsAt w ao xs) :
    Calls Tryd.prog 69 #[.slice ao xs.length cap, .int .i64 i, .int .i64 j] w fun e w' => e = .returned (.bool (pairB xs i j)) ∧ Below w.heap.size w w' := by
  have HI : Hid (∀ W, Below w.heap.size w W → Calls Tryd.prog 77 #[.slice ao xs.length cap, .int .i64 i] W fun e w' => e = .returned (.bool (memB xs i)) ∧ Below W.heap.size W w') := fun W hb => isMem_any ao cap xs i W (h.below hb)
  have HJ : Hid (∀ W, Below w.heap.size w W → Calls Tryd.prog 77 #[.slice ao xs.length cap, .int .i64 j] W fun e w' => e = .returned (.bool (memB xs j)) ∧ Below W.heap.size W w') := fun W hb => isMem_any ao cap xs j W (h.below hb)
  have hdef : pairB xs i j = (memB xs i && memB xs j && ((atL xs i).op == 16 || (atL xs j).op == 16)) := rfl
  rw [hdef]
  clear hdef
  cases hi : memB xs i
  · rw [hi] at HI
    clear h hi
    go_enter Tryd.func69, Tryd.ntmps69
    go_wp2_with (first | (go_at_call 77; refine Calls.mono (HI.out _ (Below.refl _ _)) ?_; rintro e w1 ⟨rfl, hb⟩))
    go_ret
    exact ⟨rfl, hb⟩
  · cases hj : memB xs j
    · rw [hi] at HI
      rw [hj] at HJ
      clear h hi hj
      go_enter Tryd.func69, Tryd.ntmps69
      go_wp2_with (first | (go_at_call 77; refine Calls.mono (HI.out _ (Below.refl _ _)) ?_; rintro e w1 ⟨rfl, hb⟩; have HB : Hid (Below w.heap.size w w1) := hb; clear hb HI) | (go_at_call 77; refine Calls.mono (HJ.out _ HB.out) ?_; rintro e w2 ⟨rfl, hb⟩; have HB2 : Hid (Below w.heap.size w w2) := HB.out.trans (hb.mono HB.out.size); clear hb HJ))
      go_ret
      exact ⟨rfl, HB2.out⟩
    · rw [hi] at HI
      rw [hj] at HJ
      obtain ⟨k, hk, rfl⟩ := memB_in hi
      obtain ⟨m, hm, rfl⟩ := memB_in hj
      rw [atL_at hk, atL_at hm]
      obtain ⟨b, f, rfl, hz, hx⟩ := h.is (by omega)
      have hki : (k : Int) < xs.length := by omega
      have hmi : (m : Int) < xs.length := by omega
      have HX : Hid (∀ W, Below w.heap.size w W → W.cell? ⟨b, f + k * 5, none⟩ = some (.int .i8 xs[k].op) ∧ W.cell? ⟨b, f + m * 5, none⟩ = some (.int .i8 xs[m].op)) := fun W hb => ⟨((hx k hk).below hb hz).c0, ((hx m hm).below hb hz).c0⟩
      have hlen := h.len
      clear h hi hj hx
      generalize xs[k].op = x at *
      generalize xs[m].op = y at *
      cases hx16 : x == 16
      all_goals
        go_enter Tryd.func69, Tryd.ntmps69
        go_wp2_with (first | (go_at_call 77; refine Calls.mono (HI.out _ (Below.refl _ _)) ?_; rintro e w1 ⟨rfl, hb⟩; have HB : Hid (Below w.heap.size w w1) := hb; clear hb HI) | (go_at_call 77; refine Calls.mono (HJ.out _ HB.out) ?_; rintro e w2 ⟨rfl, hb⟩; have HB2 : Hid (Below w.heap.size w w2) := HB.out.trans (hb.mono HB.out.size); obtain ⟨x0, y0⟩ := HX.out w2 HB2.out; clear hb HJ))
        go_ret
        exact ⟨ret_bool (by simp), HB2.out⟩
end Go.Proofs.YthdpgimdakmdgaaDoor.Al
