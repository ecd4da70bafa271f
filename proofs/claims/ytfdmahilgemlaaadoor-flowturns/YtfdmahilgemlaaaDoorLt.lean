/- The second statement's first half: behind and ahead are one, what is reached is closed: read off the program by the walk. Conditions: the program lies in memory. -/
import Derived.Test.YtfdmahilgemlaaaDoorLr
import Derived.Test.YtfdmahilgemlaaaDoorWk
import Derived.Deep.RegionHeld3
namespace Go.Proofs.YtfdmahilgemlaaaDoor.Fl
open Go.ChangeShapes Go.WideShapes Go.ChangeAt Go.RowKit
open _root_.Go.Proofs.YtfdmahilgemlaaaDoor.So _root_.Go.Proofs.YtfdmahilgemlaaaDoor.Ss _root_.Go.Proofs.YtfdmahilgemlaaaDoor.Op _root_.Go.Proofs.YtfdmahilgemlaaaDoor.Fw
set_option maxRecDepth 20000

set_option maxHeartbeats 64000000 in
theorem law_turns (ao : Option Addr) (cap : Nat) (ps : List Bk) (w : World) (h : PAt w ao ps) (he : Env w) :
    Calls Tryd.prog 4 #[.agg #[.slice ao ps.length cap]] w fun e w' => e = .returned (.bool true) ∧ Below w.heap.size w w' := by
  have hlen := h.len
  have hb1 : Below w.heap.size w (w.alloc (.cells #[.slice ao ps.length cap] 24)) := by go_grown
  have HC : Hid (Calls Tryd.prog 12 #[.agg #[.slice ao ps.length cap]] (w.alloc (.cells #[.slice ao ps.length cap] 24)) fun e w' => ∃ a c, e = .returned (.slice a (reachI ps).length c) ∧ Il w' (w.alloc (.cells #[.slice ao ps.length cap] 24)).heap.size a (reachI ps) ∧ Below (w.alloc (.cells #[.slice ao ps.length cap] 24)).heap.size (w.alloc (.cells #[.slice ao ps.length cap] 24)) w') := by
    refine (reached_any ao cap ps _ (h.below hb1) (he.up hb1)).mono ?_
    rintro e w' ⟨v, rfl, a, c, rfl, h1, h2⟩
    exact ⟨a, c, rfl, h1, h2⟩
  by_cases hbig : 128 < ps.length
  · rw [great_reach hbig] at HC
    have HW : Hid (∀ W, Below w.heap.size w W → Calls Tryd.prog 14 #[] W fun e w' => e = .returned (.bool true) ∧ Below W.heap.size W w') := fun W hb => wakes_any W (he.up hb)
    have hz : (ps.length : Int) > 128 := by omega
    clear h he hb1
    go_enter Tryd.func4, Tryd.ntmps4
    go_wp2_with (first
      | (go_at_call 12; refine Calls.mono HC.out ?_; rintro e w1 ⟨aR, cR, rfl, -, hb⟩; obtain ⟨a1, hb0, hz⟩ := one_new w _ _ hb; have HB1 : Hid (Below w.heap.size w w1) := hb0; clear hb hb0 a1 HC)
      | (go_at_call 14; refine Calls.mono (HW.out _ HB1.out) ?_; rintro e w2 ⟨rfl, hb⟩; have HB2 : Hid (Below w.heap.size w w2) := HB1.out.trans (hb.mono HB1.out.size); clear hb HW))
    go_ret
    exact ⟨rfl, HB2.out⟩
  · have hz : ¬ (ps.length : Int) > 128 := by omega
    have HP : Hid (PAt w ao ps) := h
    have HE : Hid (Env w) := he
    have hr1 := reach_len ps
    have hRH : Hid (reachI ps = [] ∨ (reachI ps)[0]? = some 0) := reach_head
    have hcl : Hid (∀ x y : Nat, x < ps.length → y < ps.length → (x : Int) ∈ reachI ps → (y : Int) ∈ afterL ps (x : Int) → (y : Int) ∈ reachI ps) := fun x y hx hy h1 h2 => reach_step hx hy h1 h2
    obtain ⟨xsR, hxsR⟩ : ∃ l, l = reachI ps := ⟨_, rfl⟩
    rw [← hxsR] at HC hr1 hRH hcl
    clear h he hb1 hxsR
    go_enter Tryd.func4, Tryd.ntmps4
    go_wp2_with (first
      | (go_at_call 12; refine Calls.mono HC.out ?_; rintro e w1 ⟨aR, cR, rfl, hI, hb⟩; obtain ⟨a1, hb0, hz9⟩ := one_new w _ _ hb; have HB1 : Hid (Below w.heap.size w w1) := hb0; have HU1 : Hid (Up w1 w1 w.heap.size (.slice ao ps.length cap)) := ⟨Below.refl _ _, a1.c 0 _ rfl, a1.lt⟩; have HIR : Hid (Il w1 _ aR xsR) := hI; clear hb hb0 a1 hI HC))
    have HX : Hid (∀ x : Nat, Hid (∀ W, Up w1 W w.heap.size (.slice ao ps.length cap) → Calls Tryd.prog 8 #[.agg #[.slice ao ps.length cap], .int .i64 (x : Int)] W fun e w' => ∃ a c, e = .returned (.slice a (afterL ps (x : Int)).length c) ∧ Il w' W.heap.size a (afterL ps (x : Int)) ∧ Below W.heap.size W w') ∧ Hid (∀ W, Up w1 W w.heap.size (.slice ao ps.length cap) → Calls Tryd.prog 10 #[.agg #[.slice ao ps.length cap], .int .i64 (x : Int)] W fun e w' => ∃ a c, e = .returned (.slice a (aheadL ps (x : Int)).length c) ∧ Il w' W.heap.size a (aheadL ps (x : Int)) ∧ Below W.heap.size W w')) := fun x => ⟨fun W hU => by
      have hbW := HB1.out.trans (hU.b.mono HB1.out.size)
      refine (after_any ao cap ps (x : Int) W (HP.out.below hbW) (HE.out.up hbW)).mono ?_
      rintro e w' ⟨v, rfl, a, c, rfl, h1, h2⟩
      exact ⟨a, c, rfl, h1, h2⟩, fun W hU => by
      have hbW := HB1.out.trans (hU.b.mono HB1.out.size)
      refine (ahead_any ao cap ps (x : Int) W (HP.out.below hbW) (HE.out.up hbW)).mono ?_
      rintro e w' ⟨v, rfl, a, c, rfl, h1, h2⟩
      exact ⟨a, c, rfl, h1, h2⟩⟩
    go_loopg [5, 6] 200 (fun g1 v5 v6 wr => ∃ (x : Nat), v5 = .int .i64 x ∧ x ≤ ps.length ∧ ps.length - x < g1 ∧ Hid (Up w1 wr w.heap.size (.slice ao ps.length cap)))
    case atStart => exact ⟨0, rfl, by omega, by omega, HU1.out⟩
    case round =>
      clear HU1
      obtain ⟨x, rfl, hx, hg1, HUx⟩ := hrel
      by_cases hlx : x < ps.length
      · have hzx : (x : Int) < (ps.length : Int) := by omega
        obtain ⟨HAf0, -⟩ := HX.out x
        obtain ⟨xsA, hxsA⟩ : ∃ l, l = afterL ps (x : Int) := ⟨_, rfl⟩
        rw [← hxsA] at HAf0
        have hla : xsA.length ≤ 2 := by rw [hxsA]; exact after_len _ _
        have HxA : Hid (xsA = afterL ps (x : Int)) := hxsA
        clear hxsA
        have HAf : Hid (∀ W, Up w1 W w.heap.size (.slice ao ps.length cap) → Calls Tryd.prog 8 #[.agg #[.slice ao ps.length cap], .int .i64 (x : Int)] W fun e w' => ∃ a c, e = .returned (.slice a xsA.length c) ∧ Il w' W.heap.size a xsA ∧ Below W.heap.size W w') := HAf0.out
        clear HAf0
        go_wp2
        go_loopg [6] 200 (fun g2 v6 wr2 => ∃ (y : Nat), v6 = .int .i64 y ∧ y ≤ ps.length ∧ ps.length - y < g2 ∧ Hid (Up w1 wr2 w.heap.size (.slice ao ps.length cap)))
        case atStart => exact ⟨0, rfl, by omega, by omega, HUx.out⟩
        case round =>
          clear HUx
          rename World => wz
          obtain ⟨y, rfl, hy, hg2, HUy⟩ := hrel
          by_cases hly : y < ps.length
          · have hzy : (y : Int) < (ps.length : Int) := by omega
            obtain ⟨-, HAd0⟩ := HX.out y
            obtain ⟨xsB, hxsB⟩ : ∃ l, l = aheadL ps (y : Int) := ⟨_, rfl⟩
            have h12 : Hid ((y : Int) ∈ xsA ↔ (x : Int) ∈ xsB) := by rw [HxA.out, hxsB]; exact after_ahead hlx hly
            have h35 : Hid ((x : Int) ∈ xsR → (y : Int) ∈ xsA → (y : Int) ∈ xsR) := fun h1 h2 => hcl.out x y hlx hly h1 (by rw [← HxA.out]; exact h2)
            rw [← hxsB] at HAd0
            have hlb : xsB.length ≤ 128 := by have := ahead_len ps (y : Int); rw [← hxsB] at this; omega
            have HAd : Hid (∀ W, Up w1 W w.heap.size (.slice ao ps.length cap) → Calls Tryd.prog 10 #[.agg #[.slice ao ps.length cap], .int .i64 (y : Int)] W fun e w' => ∃ a c, e = .returned (.slice a xsB.length c) ∧ Il w' W.heap.size a xsB ∧ Below W.heap.size W w') := HAd0.out
            have HBV : Hid (Up w1 wz.drew w.heap.size (.slice ao ps.length cap)) := ⟨⟨HUy.out.b.os, HUy.out.b.tape, HUy.out.b.output, HUy.out.b.size, HUy.out.b.block⟩, HUy.out.c, HUy.out.lt⟩
            clear hxsB HAd0 HUy HX
            by_cases hm3 : (x : Int) ∈ xsR
            · by_cases hm1 : (y : Int) ∈ xsA
              · skip
                have HhA : Hid (∀ a c B W, Il W B a xsA → Calls Tryd.prog 15 #[.slice a xsA.length c, .int .i64 (y : Int)] W fun e w' => e = .returned (.bool true) ∧ w' = W) := fun a c B W h => by have := hasL_any a c xsA (y : Int) B W h (by omega); rw [decide_eq_true hm1] at this; exact this
                have HhB : Hid (∀ a c B W, Il W B a xsB → Calls Tryd.prog 15 #[.slice a xsB.length c, .int .i64 (x : Int)] W fun e w' => e = .returned (.bool true) ∧ w' = W) := fun a c B W h => by have := hasL_any a c xsB (x : Int) B W h (by omega); rw [decide_eq_true (h12.out.1 hm1)] at this; exact this
                have HhX : Hid (∀ c W, Up w1 W w.heap.size (.slice ao ps.length cap) → Calls Tryd.prog 15 #[.slice aR xsR.length c, .int .i64 (x : Int)] W fun e w' => e = .returned (.bool true) ∧ w' = W) := fun c W h => by have := hasL_any aR c xsR (x : Int) _ W (HIR.out.below h.b) (by omega); rw [decide_eq_true hm3] at this; exact this
                have HhY : Hid (∀ c W, Up w1 W w.heap.size (.slice ao ps.length cap) → Calls Tryd.prog 15 #[.slice aR xsR.length c, .int .i64 (y : Int)] W fun e w' => e = .returned (.bool true) ∧ w' = W) := fun c W h => by have := hasL_any aR c xsR (y : Int) _ W (HIR.out.below h.b) (by omega); rw [decide_eq_true (h35.out hm3 hm1)] at this; exact this
                clear hm1 hm3 h12 h35 HxA hcl HP HE HB1 hRH HIR
                go_wp2_with fail
                refine wp_region_held_drew (S := fun w' => w'.cell? ⟨w.heap.size, 0, none⟩ = some (.slice ao ps.length cap)) (by kernel_rfl) HBV.out.c (fun hHeld => ?_)
                refine wpAnyH_take (i := 0) (v := .agg #[.slice ao ps.length cap]) rfl (by kernel_rfl) (by kernel_rfl) (by kernel_rfl) (fun _ _ _ h => h) (Or.inl ⟨by rfl, fun w' hSw => by (dsimp only at hSw; go_simp)⟩) hHeld ?_
                simp only [Act.put, List.setIfInBounds_toArray, List.set_cons_zero, List.set_cons_succ, List.getElem_cons_zero, List.getElem_toArray]
                refine wpAnyH_take (i := 1) (v := .int .i64 (x : Int)) rfl (by kernel_rfl) (by kernel_rfl) (by kernel_rfl) (fun _ _ _ h => h) (Or.inl ⟨by rfl, fun w' hSw => by (dsimp only at hSw; go_simp)⟩) hHeld ?_
                simp only [Act.put, List.setIfInBounds_toArray, List.set_cons_zero, List.set_cons_succ, List.getElem_cons_zero, List.getElem_cons_succ, List.getElem_toArray]
                refine wpAnyH_take (i := 3) (v := .int .i64 (y : Int)) rfl (by kernel_rfl) (by kernel_rfl) (by kernel_rfl) (fun _ _ _ h => h) (Or.inl ⟨by rfl, fun w' hSw => by (dsimp only at hSw; go_simp)⟩) hHeld ?_
                simp only [Act.put, List.setIfInBounds_toArray, List.set_cons_zero, List.set_cons_succ, List.getElem_cons_zero, List.getElem_cons_succ, List.getElem_toArray]
                refine wpAnyH_take (i := 5) (v := .agg #[.slice ao ps.length cap]) rfl (by kernel_rfl) (by kernel_rfl) (by kernel_rfl) (fun _ _ _ h => h) (Or.inl ⟨by rfl, fun w' hSw => by (dsimp only at hSw; go_simp)⟩) hHeld ?_
                simp only [Act.put, List.setIfInBounds_toArray, List.set_cons_zero, List.set_cons_succ, List.getElem_cons_zero, List.getElem_cons_succ, List.getElem_toArray]
                refine wpAnyH_take (i := 6) (v := .int .i64 (y : Int)) rfl (by kernel_rfl) (by kernel_rfl) (by kernel_rfl) (fun _ _ _ h => h) (Or.inl ⟨by rfl, fun w' hSw => by (dsimp only at hSw; go_simp)⟩) hHeld ?_
                simp only [Act.put, List.setIfInBounds_toArray, List.set_cons_zero, List.set_cons_succ, List.getElem_cons_zero, List.getElem_cons_succ, List.getElem_toArray]
                refine wpAnyH_take (i := 8) (v := .int .i64 (x : Int)) rfl (by kernel_rfl) (by kernel_rfl) (by kernel_rfl) (fun _ _ _ h => h) (Or.inl ⟨by rfl, fun w' hSw => by (dsimp only at hSw; go_simp)⟩) hHeld ?_
                simp only [Act.put, List.setIfInBounds_toArray, List.set_cons_zero, List.set_cons_succ, List.getElem_cons_zero, List.getElem_cons_succ, List.getElem_toArray]
                refine wpAnyH_ready (rs := [2]) (by kernel_rfl) (by simp) ?_
                refine AllReadyH.cons rfl (fun K hK => ?_) AllReadyH.nil
                go_simp
                refine Calls.mono (HAf.out _ HBV.out) ?_
                rintro e w2 ⟨a2, c2, rfl, hI, hb⟩
                have HIA : Hid (Il w2 _ a2 xsA) := hI
                have HBN : Hid (Up w1 w2 w.heap.size (.slice ao ps.length cap)) := HBV.out.go hb
                clear HBV
                have HBV : Hid (Up w1 w2 w.heap.size (.slice ao ps.length cap)) := HBN.out
                clear HBN hI hb
                refine hK.out _ _ HBV.out.c (fun hHeld => ?_)
                clear hK K
                refine wpAnyH_ready (rs := [4]) (by kernel_rfl) (by simp) ?_
                refine AllReadyH.cons rfl (fun K hK => ?_) AllReadyH.nil
                go_simp
                refine Calls.mono (HhA.out _ _ _ _ HIA.out) ?_
                rintro e wN ⟨rfl, hw⟩
                subst wN
                clear HIA
                refine hK.out _ _ HBV.out.c (fun hHeld => ?_)
                clear hK K
                refine wpAnyH_ready (rs := [7]) (by kernel_rfl) (by simp) ?_
                refine AllReadyH.cons rfl (fun K hK => ?_) AllReadyH.nil
                go_simp
                refine Calls.mono (HAd.out _ HBV.out) ?_
                rintro e w7 ⟨a7, c7, rfl, hI, hb⟩
                have HIB : Hid (Il w7 _ a7 xsB) := hI
                have HBN : Hid (Up w1 w7 w.heap.size (.slice ao ps.length cap)) := HBV.out.go hb
                clear HBV
                have HBV : Hid (Up w1 w7 w.heap.size (.slice ao ps.length cap)) := HBN.out
                clear HBN hI hb
                refine hK.out _ _ HBV.out.c (fun hHeld => ?_)
                clear hK K
                refine wpAnyH_ready (rs := [9]) (by kernel_rfl) (by simp) ?_
                refine AllReadyH.cons rfl (fun K hK => ?_) AllReadyH.nil
                go_simp
                refine Calls.mono (HhB.out _ _ _ _ HIB.out) ?_
                rintro e wN ⟨rfl, hw⟩
                subst wN
                clear HIB
                refine hK.out _ _ HBV.out.c (fun hHeld => ?_)
                clear hK K
                refine wpAnyH_take (i := 10) (v := .bool false) rfl (by kernel_rfl) (by kernel_rfl) (by kernel_rfl) (fun _ _ _ h => h) (Or.inl ⟨by rfl, fun w' hSw => by (dsimp only at hSw; go_simp)⟩) hHeld ?_
                simp only [Act.put, List.setIfInBounds_toArray, List.set_cons_zero, List.set_cons_succ, List.getElem_cons_zero, List.getElem_cons_succ, List.getElem_toArray]
                refine wpAnyH_take (i := 11) (v := .bool false) rfl (by kernel_rfl) (by kernel_rfl) (by kernel_rfl) (fun _ _ _ h => h) (Or.inl ⟨by rfl, fun w' hSw => by (dsimp only at hSw; go_simp)⟩) hHeld ?_
                simp only [Act.put, List.setIfInBounds_toArray, List.set_cons_zero, List.set_cons_succ, List.getElem_cons_zero, List.getElem_cons_succ, List.getElem_toArray]
                refine wpAnyH_take (i := 12) (v := .slice aR xsR.length cR) rfl (by kernel_rfl) (by kernel_rfl) (by kernel_rfl) (fun _ _ _ h => h) (Or.inl ⟨by rfl, fun w' hSw => by (dsimp only at hSw; go_simp)⟩) hHeld ?_
                simp only [Act.put, List.setIfInBounds_toArray, List.set_cons_zero, List.set_cons_succ, List.getElem_cons_zero, List.getElem_cons_succ, List.getElem_toArray]
                refine wpAnyH_take (i := 13) (v := .int .i64 (x : Int)) rfl (by kernel_rfl) (by kernel_rfl) (by kernel_rfl) (fun _ _ _ h => h) (Or.inl ⟨by rfl, fun w' hSw => by (dsimp only at hSw; go_simp)⟩) hHeld ?_
                simp only [Act.put, List.setIfInBounds_toArray, List.set_cons_zero, List.set_cons_succ, List.getElem_cons_zero, List.getElem_cons_succ, List.getElem_toArray]
                refine wpAnyH_ready (rs := [14]) (by kernel_rfl) (by simp) ?_
                refine AllReadyH.cons rfl (fun K hK => ?_) AllReadyH.nil
                go_simp
                refine Calls.mono (HhX.out _ _ HBV.out) ?_
                rintro e wN ⟨rfl, hw⟩
                subst wN
                refine hK.out _ _ HBV.out.c (fun hHeld => ?_)
                clear hK K
                refine wpAnyH_take (i := 15) (v := .bool true) rfl (by kernel_rfl) (by kernel_rfl) (by kernel_rfl) (fun _ _ _ h => h) (Or.inl ⟨by rfl, fun w' hSw => by (dsimp only at hSw; go_simp)⟩) hHeld ?_
                simp only [Act.put, List.setIfInBounds_toArray, List.set_cons_zero, List.set_cons_succ, List.getElem_cons_zero, List.getElem_cons_succ, List.getElem_toArray]
                refine wpAnyH_take (i := 16) (v := .agg #[.slice ao ps.length cap]) rfl (by kernel_rfl) (by kernel_rfl) (by kernel_rfl) (fun _ _ _ h => h) (Or.inl ⟨by rfl, fun w' hSw => by (dsimp only at hSw; go_simp)⟩) hHeld ?_
                simp only [Act.put, List.setIfInBounds_toArray, List.set_cons_zero, List.set_cons_succ, List.getElem_cons_zero, List.getElem_cons_succ, List.getElem_toArray]
                refine wpAnyH_take (i := 17) (v := .int .i64 (x : Int)) rfl (by kernel_rfl) (by kernel_rfl) (by kernel_rfl) (fun _ _ _ h => h) (Or.inl ⟨by rfl, fun w' hSw => by (dsimp only at hSw; go_simp)⟩) hHeld ?_
                simp only [Act.put, List.setIfInBounds_toArray, List.set_cons_zero, List.set_cons_succ, List.getElem_cons_zero, List.getElem_cons_succ, List.getElem_toArray]
                refine wpAnyH_take (i := 19) (v := .int .i64 (y : Int)) rfl (by kernel_rfl) (by kernel_rfl) (by kernel_rfl) (fun _ _ _ h => h) (Or.inl ⟨by rfl, fun w' hSw => by (dsimp only at hSw; go_simp)⟩) hHeld ?_
                simp only [Act.put, List.setIfInBounds_toArray, List.set_cons_zero, List.set_cons_succ, List.getElem_cons_zero, List.getElem_cons_succ, List.getElem_toArray]
                refine wpAnyH_ready (rs := [18]) (by kernel_rfl) (by simp) ?_
                refine AllReadyH.cons rfl (fun K hK => ?_) AllReadyH.nil
                go_simp
                refine Calls.mono (HAf.out _ HBV.out) ?_
                rintro e w18 ⟨a18, c18, rfl, hI, hb⟩
                have HIA : Hid (Il w18 _ a18 xsA) := hI
                have HBN : Hid (Up w1 w18 w.heap.size (.slice ao ps.length cap)) := HBV.out.go hb
                clear HBV
                have HBV : Hid (Up w1 w18 w.heap.size (.slice ao ps.length cap)) := HBN.out
                clear HBN hI hb
                refine hK.out _ _ HBV.out.c (fun hHeld => ?_)
                clear hK K
                refine wpAnyH_ready (rs := [20]) (by kernel_rfl) (by simp) ?_
                refine AllReadyH.cons rfl (fun K hK => ?_) AllReadyH.nil
                go_simp
                refine Calls.mono (HhA.out _ _ _ _ HIA.out) ?_
                rintro e wN ⟨rfl, hw⟩
                subst wN
                clear HIA
                refine hK.out _ _ HBV.out.c (fun hHeld => ?_)
                clear hK K
                refine wpAnyH_take (i := 21) (v := .bool true) rfl (by kernel_rfl) (by kernel_rfl) (by kernel_rfl) (fun _ _ _ h => h) (Or.inl ⟨by rfl, fun w' hSw => by (dsimp only at hSw; go_simp)⟩) hHeld ?_
                simp only [Act.put, List.setIfInBounds_toArray, List.set_cons_zero, List.set_cons_succ, List.getElem_cons_zero, List.getElem_cons_succ, List.getElem_toArray]
                refine wpAnyH_take (i := 22) (v := .bool true) rfl (by kernel_rfl) (by kernel_rfl) (by kernel_rfl) (fun _ _ _ h => h) (Or.inl ⟨by rfl, fun w' hSw => by (dsimp only at hSw; go_simp)⟩) hHeld ?_
                simp only [Act.put, List.setIfInBounds_toArray, List.set_cons_zero, List.set_cons_succ, List.getElem_cons_zero, List.getElem_cons_succ, List.getElem_toArray]
                refine wpAnyH_take (i := 23) (v := .slice aR xsR.length cR) rfl (by kernel_rfl) (by kernel_rfl) (by kernel_rfl) (fun _ _ _ h => h) (Or.inl ⟨by rfl, fun w' hSw => by (dsimp only at hSw; go_simp)⟩) hHeld ?_
                simp only [Act.put, List.setIfInBounds_toArray, List.set_cons_zero, List.set_cons_succ, List.getElem_cons_zero, List.getElem_cons_succ, List.getElem_toArray]
                refine wpAnyH_take (i := 24) (v := .int .i64 (y : Int)) rfl (by kernel_rfl) (by kernel_rfl) (by kernel_rfl) (fun _ _ _ h => h) (Or.inl ⟨by rfl, fun w' hSw => by (dsimp only at hSw; go_simp)⟩) hHeld ?_
                simp only [Act.put, List.setIfInBounds_toArray, List.set_cons_zero, List.set_cons_succ, List.getElem_cons_zero, List.getElem_cons_succ, List.getElem_toArray]
                refine wpAnyH_ready (rs := [25]) (by kernel_rfl) (by simp) ?_
                refine AllReadyH.cons rfl (fun K hK => ?_) AllReadyH.nil
                go_simp
                refine Calls.mono (HhY.out _ _ HBV.out) ?_
                rintro e wN ⟨rfl, hw⟩
                subst wN
                refine hK.out _ _ HBV.out.c (fun hHeld => ?_)
                clear hK K
                refine wpAnyH_take (i := 26) (v := .bool false) rfl (by kernel_rfl) (by kernel_rfl) (by kernel_rfl) (fun _ _ _ h => h) (Or.inl ⟨by rfl, fun w' hSw => by (dsimp only at hSw; go_simp)⟩) hHeld ?_
                simp only [Act.put, List.setIfInBounds_toArray, List.set_cons_zero, List.set_cons_succ, List.getElem_cons_zero, List.getElem_cons_succ, List.getElem_toArray]
                refine wpAnyH_take (i := 27) (v := .bool false) rfl (by kernel_rfl) (by kernel_rfl) (by kernel_rfl) (fun _ _ _ h => h) (Or.inl ⟨by rfl, fun w' hSw => by (dsimp only at hSw; go_simp)⟩) hHeld ?_
                simp only [Act.put, List.setIfInBounds_toArray, List.set_cons_zero, List.set_cons_succ, List.getElem_cons_zero, List.getElem_cons_succ, List.getElem_toArray]
                refine wpAnyH_take (i := 28) (v := .bool false) rfl (by kernel_rfl) (by kernel_rfl) (by kernel_rfl) (fun _ _ _ h => h) (Or.inl ⟨by rfl, fun w' hSw => by (dsimp only at hSw; go_simp)⟩) hHeld ?_
                simp only [Act.put, List.setIfInBounds_toArray, List.set_cons_zero, List.set_cons_succ, List.getElem_cons_zero, List.getElem_cons_succ, List.getElem_toArray]
                refine wpAnyH_done (by kernel_rfl) ?_ _
                go_wp2
                go_roundg (ps.length - y)
                case measure => omega
                case rel => exact ⟨y + 1, by go_num, by omega, by omega, HBV.out⟩
              · skip
                have HhA : Hid (∀ a c B W, Il W B a xsA → Calls Tryd.prog 15 #[.slice a xsA.length c, .int .i64 (y : Int)] W fun e w' => e = .returned (.bool false) ∧ w' = W) := fun a c B W h => by have := hasL_any a c xsA (y : Int) B W h (by omega); rw [decide_eq_false hm1] at this; exact this
                have HhB : Hid (∀ a c B W, Il W B a xsB → Calls Tryd.prog 15 #[.slice a xsB.length c, .int .i64 (x : Int)] W fun e w' => e = .returned (.bool false) ∧ w' = W) := fun a c B W h => by have := hasL_any a c xsB (x : Int) B W h (by omega); rw [decide_eq_false (fun h => hm1 (h12.out.2 h))] at this; exact this
                have HhX : Hid (∀ c W, Up w1 W w.heap.size (.slice ao ps.length cap) → Calls Tryd.prog 15 #[.slice aR xsR.length c, .int .i64 (x : Int)] W fun e w' => e = .returned (.bool true) ∧ w' = W) := fun c W h => by have := hasL_any aR c xsR (x : Int) _ W (HIR.out.below h.b) (by omega); rw [decide_eq_true hm3] at this; exact this
                clear hm1 hm3 h12 h35 HxA hcl HP HE HB1 hRH HIR
                go_wp2_with fail
                refine wp_region_held_drew (S := fun w' => w'.cell? ⟨w.heap.size, 0, none⟩ = some (.slice ao ps.length cap)) (by kernel_rfl) HBV.out.c (fun hHeld => ?_)
                refine wpAnyH_take (i := 0) (v := .agg #[.slice ao ps.length cap]) rfl (by kernel_rfl) (by kernel_rfl) (by kernel_rfl) (fun _ _ _ h => h) (Or.inl ⟨by rfl, fun w' hSw => by (dsimp only at hSw; go_simp)⟩) hHeld ?_
                simp only [Act.put, List.setIfInBounds_toArray, List.set_cons_zero, List.set_cons_succ, List.getElem_cons_zero, List.getElem_toArray]
                refine wpAnyH_take (i := 1) (v := .int .i64 (x : Int)) rfl (by kernel_rfl) (by kernel_rfl) (by kernel_rfl) (fun _ _ _ h => h) (Or.inl ⟨by rfl, fun w' hSw => by (dsimp only at hSw; go_simp)⟩) hHeld ?_
                simp only [Act.put, List.setIfInBounds_toArray, List.set_cons_zero, List.set_cons_succ, List.getElem_cons_zero, List.getElem_cons_succ, List.getElem_toArray]
                refine wpAnyH_take (i := 3) (v := .int .i64 (y : Int)) rfl (by kernel_rfl) (by kernel_rfl) (by kernel_rfl) (fun _ _ _ h => h) (Or.inl ⟨by rfl, fun w' hSw => by (dsimp only at hSw; go_simp)⟩) hHeld ?_
                simp only [Act.put, List.setIfInBounds_toArray, List.set_cons_zero, List.set_cons_succ, List.getElem_cons_zero, List.getElem_cons_succ, List.getElem_toArray]
                refine wpAnyH_take (i := 5) (v := .agg #[.slice ao ps.length cap]) rfl (by kernel_rfl) (by kernel_rfl) (by kernel_rfl) (fun _ _ _ h => h) (Or.inl ⟨by rfl, fun w' hSw => by (dsimp only at hSw; go_simp)⟩) hHeld ?_
                simp only [Act.put, List.setIfInBounds_toArray, List.set_cons_zero, List.set_cons_succ, List.getElem_cons_zero, List.getElem_cons_succ, List.getElem_toArray]
                refine wpAnyH_take (i := 6) (v := .int .i64 (y : Int)) rfl (by kernel_rfl) (by kernel_rfl) (by kernel_rfl) (fun _ _ _ h => h) (Or.inl ⟨by rfl, fun w' hSw => by (dsimp only at hSw; go_simp)⟩) hHeld ?_
                simp only [Act.put, List.setIfInBounds_toArray, List.set_cons_zero, List.set_cons_succ, List.getElem_cons_zero, List.getElem_cons_succ, List.getElem_toArray]
                refine wpAnyH_take (i := 8) (v := .int .i64 (x : Int)) rfl (by kernel_rfl) (by kernel_rfl) (by kernel_rfl) (fun _ _ _ h => h) (Or.inl ⟨by rfl, fun w' hSw => by (dsimp only at hSw; go_simp)⟩) hHeld ?_
                simp only [Act.put, List.setIfInBounds_toArray, List.set_cons_zero, List.set_cons_succ, List.getElem_cons_zero, List.getElem_cons_succ, List.getElem_toArray]
                refine wpAnyH_ready (rs := [2]) (by kernel_rfl) (by simp) ?_
                refine AllReadyH.cons rfl (fun K hK => ?_) AllReadyH.nil
                go_simp
                refine Calls.mono (HAf.out _ HBV.out) ?_
                rintro e w2 ⟨a2, c2, rfl, hI, hb⟩
                have HIA : Hid (Il w2 _ a2 xsA) := hI
                have HBN : Hid (Up w1 w2 w.heap.size (.slice ao ps.length cap)) := HBV.out.go hb
                clear HBV
                have HBV : Hid (Up w1 w2 w.heap.size (.slice ao ps.length cap)) := HBN.out
                clear HBN hI hb
                refine hK.out _ _ HBV.out.c (fun hHeld => ?_)
                clear hK K
                refine wpAnyH_ready (rs := [4]) (by kernel_rfl) (by simp) ?_
                refine AllReadyH.cons rfl (fun K hK => ?_) AllReadyH.nil
                go_simp
                refine Calls.mono (HhA.out _ _ _ _ HIA.out) ?_
                rintro e wN ⟨rfl, hw⟩
                subst wN
                clear HIA
                refine hK.out _ _ HBV.out.c (fun hHeld => ?_)
                clear hK K
                refine wpAnyH_ready (rs := [7]) (by kernel_rfl) (by simp) ?_
                refine AllReadyH.cons rfl (fun K hK => ?_) AllReadyH.nil
                go_simp
                refine Calls.mono (HAd.out _ HBV.out) ?_
                rintro e w7 ⟨a7, c7, rfl, hI, hb⟩
                have HIB : Hid (Il w7 _ a7 xsB) := hI
                have HBN : Hid (Up w1 w7 w.heap.size (.slice ao ps.length cap)) := HBV.out.go hb
                clear HBV
                have HBV : Hid (Up w1 w7 w.heap.size (.slice ao ps.length cap)) := HBN.out
                clear HBN hI hb
                refine hK.out _ _ HBV.out.c (fun hHeld => ?_)
                clear hK K
                refine wpAnyH_ready (rs := [9]) (by kernel_rfl) (by simp) ?_
                refine AllReadyH.cons rfl (fun K hK => ?_) AllReadyH.nil
                go_simp
                refine Calls.mono (HhB.out _ _ _ _ HIB.out) ?_
                rintro e wN ⟨rfl, hw⟩
                subst wN
                clear HIB
                refine hK.out _ _ HBV.out.c (fun hHeld => ?_)
                clear hK K
                refine wpAnyH_take (i := 10) (v := .bool false) rfl (by kernel_rfl) (by kernel_rfl) (by kernel_rfl) (fun _ _ _ h => h) (Or.inl ⟨by rfl, fun w' hSw => by (dsimp only at hSw; go_simp)⟩) hHeld ?_
                simp only [Act.put, List.setIfInBounds_toArray, List.set_cons_zero, List.set_cons_succ, List.getElem_cons_zero, List.getElem_cons_succ, List.getElem_toArray]
                refine wpAnyH_take (i := 11) (v := .bool false) rfl (by kernel_rfl) (by kernel_rfl) (by kernel_rfl) (fun _ _ _ h => h) (Or.inl ⟨by rfl, fun w' hSw => by (dsimp only at hSw; go_simp)⟩) hHeld ?_
                simp only [Act.put, List.setIfInBounds_toArray, List.set_cons_zero, List.set_cons_succ, List.getElem_cons_zero, List.getElem_cons_succ, List.getElem_toArray]
                refine wpAnyH_take (i := 12) (v := .slice aR xsR.length cR) rfl (by kernel_rfl) (by kernel_rfl) (by kernel_rfl) (fun _ _ _ h => h) (Or.inl ⟨by rfl, fun w' hSw => by (dsimp only at hSw; go_simp)⟩) hHeld ?_
                simp only [Act.put, List.setIfInBounds_toArray, List.set_cons_zero, List.set_cons_succ, List.getElem_cons_zero, List.getElem_cons_succ, List.getElem_toArray]
                refine wpAnyH_take (i := 13) (v := .int .i64 (x : Int)) rfl (by kernel_rfl) (by kernel_rfl) (by kernel_rfl) (fun _ _ _ h => h) (Or.inl ⟨by rfl, fun w' hSw => by (dsimp only at hSw; go_simp)⟩) hHeld ?_
                simp only [Act.put, List.setIfInBounds_toArray, List.set_cons_zero, List.set_cons_succ, List.getElem_cons_zero, List.getElem_cons_succ, List.getElem_toArray]
                refine wpAnyH_ready (rs := [14]) (by kernel_rfl) (by simp) ?_
                refine AllReadyH.cons rfl (fun K hK => ?_) AllReadyH.nil
                go_simp
                refine Calls.mono (HhX.out _ _ HBV.out) ?_
                rintro e wN ⟨rfl, hw⟩
                subst wN
                refine hK.out _ _ HBV.out.c (fun hHeld => ?_)
                clear hK K
                refine wpAnyH_take (i := 15) (v := .bool true) rfl (by kernel_rfl) (by kernel_rfl) (by kernel_rfl) (fun _ _ _ h => h) (Or.inl ⟨by rfl, fun w' hSw => by (dsimp only at hSw; go_simp)⟩) hHeld ?_
                simp only [Act.put, List.setIfInBounds_toArray, List.set_cons_zero, List.set_cons_succ, List.getElem_cons_zero, List.getElem_cons_succ, List.getElem_toArray]
                refine wpAnyH_take (i := 16) (v := .agg #[.slice ao ps.length cap]) rfl (by kernel_rfl) (by kernel_rfl) (by kernel_rfl) (fun _ _ _ h => h) (Or.inl ⟨by rfl, fun w' hSw => by (dsimp only at hSw; go_simp)⟩) hHeld ?_
                simp only [Act.put, List.setIfInBounds_toArray, List.set_cons_zero, List.set_cons_succ, List.getElem_cons_zero, List.getElem_cons_succ, List.getElem_toArray]
                refine wpAnyH_take (i := 17) (v := .int .i64 (x : Int)) rfl (by kernel_rfl) (by kernel_rfl) (by kernel_rfl) (fun _ _ _ h => h) (Or.inl ⟨by rfl, fun w' hSw => by (dsimp only at hSw; go_simp)⟩) hHeld ?_
                simp only [Act.put, List.setIfInBounds_toArray, List.set_cons_zero, List.set_cons_succ, List.getElem_cons_zero, List.getElem_cons_succ, List.getElem_toArray]
                refine wpAnyH_take (i := 19) (v := .int .i64 (y : Int)) rfl (by kernel_rfl) (by kernel_rfl) (by kernel_rfl) (fun _ _ _ h => h) (Or.inl ⟨by rfl, fun w' hSw => by (dsimp only at hSw; go_simp)⟩) hHeld ?_
                simp only [Act.put, List.setIfInBounds_toArray, List.set_cons_zero, List.set_cons_succ, List.getElem_cons_zero, List.getElem_cons_succ, List.getElem_toArray]
                refine wpAnyH_ready (rs := [18]) (by kernel_rfl) (by simp) ?_
                refine AllReadyH.cons rfl (fun K hK => ?_) AllReadyH.nil
                go_simp
                refine Calls.mono (HAf.out _ HBV.out) ?_
                rintro e w18 ⟨a18, c18, rfl, hI, hb⟩
                have HIA : Hid (Il w18 _ a18 xsA) := hI
                have HBN : Hid (Up w1 w18 w.heap.size (.slice ao ps.length cap)) := HBV.out.go hb
                clear HBV
                have HBV : Hid (Up w1 w18 w.heap.size (.slice ao ps.length cap)) := HBN.out
                clear HBN hI hb
                refine hK.out _ _ HBV.out.c (fun hHeld => ?_)
                clear hK K
                refine wpAnyH_ready (rs := [20]) (by kernel_rfl) (by simp) ?_
                refine AllReadyH.cons rfl (fun K hK => ?_) AllReadyH.nil
                go_simp
                refine Calls.mono (HhA.out _ _ _ _ HIA.out) ?_
                rintro e wN ⟨rfl, hw⟩
                subst wN
                clear HIA
                refine hK.out _ _ HBV.out.c (fun hHeld => ?_)
                clear hK K
                refine wpAnyH_take (i := 21) (v := .bool false) rfl (by kernel_rfl) (by kernel_rfl) (by kernel_rfl) (fun _ _ _ h => h) (Or.inl ⟨by rfl, fun w' hSw => by (dsimp only at hSw; go_simp)⟩) hHeld ?_
                simp only [Act.put, List.setIfInBounds_toArray, List.set_cons_zero, List.set_cons_succ, List.getElem_cons_zero, List.getElem_cons_succ, List.getElem_toArray]
                refine wpAnyH_take (i := 22) (v := .bool false) rfl (by kernel_rfl) (by kernel_rfl) (by kernel_rfl) (fun _ _ _ h => h) (Or.inl ⟨by rfl, fun w' hSw => by (dsimp only at hSw; go_simp)⟩) hHeld ?_
                simp only [Act.put, List.setIfInBounds_toArray, List.set_cons_zero, List.set_cons_succ, List.getElem_cons_zero, List.getElem_cons_succ, List.getElem_toArray]
                refine wpAnyH_take (i := 23) (v := undef) rfl (by kernel_rfl) (by kernel_rfl) (by kernel_rfl) (fun _ _ _ h => h) (Or.inr ⟨by rfl, rfl⟩) hHeld ?_
                simp only [Act.put, List.setIfInBounds_toArray, List.set_cons_zero, List.set_cons_succ, List.getElem_cons_zero, List.getElem_cons_succ, List.getElem_toArray]
                refine wpAnyH_take (i := 24) (v := undef) rfl (by kernel_rfl) (by kernel_rfl) (by kernel_rfl) (fun _ _ _ h => h) (Or.inr ⟨by rfl, rfl⟩) hHeld ?_
                simp only [Act.put, List.setIfInBounds_toArray, List.set_cons_zero, List.set_cons_succ, List.getElem_cons_zero, List.getElem_cons_succ, List.getElem_toArray]
                refine wpAnyH_take (i := 25) (v := undef) rfl (by kernel_rfl) (by kernel_rfl) (by kernel_rfl) (fun _ _ _ h => h) (Or.inr ⟨by rfl, rfl⟩) hHeld ?_
                simp only [Act.put, List.setIfInBounds_toArray, List.set_cons_zero, List.set_cons_succ, List.getElem_cons_zero, List.getElem_cons_succ, List.getElem_toArray]
                refine wpAnyH_take (i := 26) (v := undef) rfl (by kernel_rfl) (by kernel_rfl) (by kernel_rfl) (fun _ _ _ h => h) (Or.inr ⟨by rfl, rfl⟩) hHeld ?_
                simp only [Act.put, List.setIfInBounds_toArray, List.set_cons_zero, List.set_cons_succ, List.getElem_cons_zero, List.getElem_cons_succ, List.getElem_toArray]
                refine wpAnyH_take (i := 27) (v := .bool false) rfl (by kernel_rfl) (by kernel_rfl) (by kernel_rfl) (fun _ _ _ h => h) (Or.inl ⟨by rfl, fun w' hSw => by (dsimp only at hSw; go_simp)⟩) hHeld ?_
                simp only [Act.put, List.setIfInBounds_toArray, List.set_cons_zero, List.set_cons_succ, List.getElem_cons_zero, List.getElem_cons_succ, List.getElem_toArray]
                refine wpAnyH_take (i := 28) (v := .bool false) rfl (by kernel_rfl) (by kernel_rfl) (by kernel_rfl) (fun _ _ _ h => h) (Or.inl ⟨by rfl, fun w' hSw => by (dsimp only at hSw; go_simp)⟩) hHeld ?_
                simp only [Act.put, List.setIfInBounds_toArray, List.set_cons_zero, List.set_cons_succ, List.getElem_cons_zero, List.getElem_cons_succ, List.getElem_toArray]
                refine wpAnyH_done (by kernel_rfl) ?_ _
                go_wp2
                go_roundg (ps.length - y)
                case measure => omega
                case rel => exact ⟨y + 1, by go_num, by omega, by omega, HBV.out⟩
            · by_cases hm1 : (y : Int) ∈ xsA
              · skip
                have HhA : Hid (∀ a c B W, Il W B a xsA → Calls Tryd.prog 15 #[.slice a xsA.length c, .int .i64 (y : Int)] W fun e w' => e = .returned (.bool true) ∧ w' = W) := fun a c B W h => by have := hasL_any a c xsA (y : Int) B W h (by omega); rw [decide_eq_true hm1] at this; exact this
                have HhB : Hid (∀ a c B W, Il W B a xsB → Calls Tryd.prog 15 #[.slice a xsB.length c, .int .i64 (x : Int)] W fun e w' => e = .returned (.bool true) ∧ w' = W) := fun a c B W h => by have := hasL_any a c xsB (x : Int) B W h (by omega); rw [decide_eq_true (h12.out.1 hm1)] at this; exact this
                have HhX : Hid (∀ c W, Up w1 W w.heap.size (.slice ao ps.length cap) → Calls Tryd.prog 15 #[.slice aR xsR.length c, .int .i64 (x : Int)] W fun e w' => e = .returned (.bool false) ∧ w' = W) := fun c W h => by have := hasL_any aR c xsR (x : Int) _ W (HIR.out.below h.b) (by omega); rw [decide_eq_false hm3] at this; exact this
                clear hm1 hm3 h12 h35 HxA hcl HP HE HB1 hRH HIR
                go_wp2_with fail
                refine wp_region_held_drew (S := fun w' => w'.cell? ⟨w.heap.size, 0, none⟩ = some (.slice ao ps.length cap)) (by kernel_rfl) HBV.out.c (fun hHeld => ?_)
                refine wpAnyH_take (i := 0) (v := .agg #[.slice ao ps.length cap]) rfl (by kernel_rfl) (by kernel_rfl) (by kernel_rfl) (fun _ _ _ h => h) (Or.inl ⟨by rfl, fun w' hSw => by (dsimp only at hSw; go_simp)⟩) hHeld ?_
                simp only [Act.put, List.setIfInBounds_toArray, List.set_cons_zero, List.set_cons_succ, List.getElem_cons_zero, List.getElem_toArray]
                refine wpAnyH_take (i := 1) (v := .int .i64 (x : Int)) rfl (by kernel_rfl) (by kernel_rfl) (by kernel_rfl) (fun _ _ _ h => h) (Or.inl ⟨by rfl, fun w' hSw => by (dsimp only at hSw; go_simp)⟩) hHeld ?_
                simp only [Act.put, List.setIfInBounds_toArray, List.set_cons_zero, List.set_cons_succ, List.getElem_cons_zero, List.getElem_cons_succ, List.getElem_toArray]
                refine wpAnyH_take (i := 3) (v := .int .i64 (y : Int)) rfl (by kernel_rfl) (by kernel_rfl) (by kernel_rfl) (fun _ _ _ h => h) (Or.inl ⟨by rfl, fun w' hSw => by (dsimp only at hSw; go_simp)⟩) hHeld ?_
                simp only [Act.put, List.setIfInBounds_toArray, List.set_cons_zero, List.set_cons_succ, List.getElem_cons_zero, List.getElem_cons_succ, List.getElem_toArray]
                refine wpAnyH_take (i := 5) (v := .agg #[.slice ao ps.length cap]) rfl (by kernel_rfl) (by kernel_rfl) (by kernel_rfl) (fun _ _ _ h => h) (Or.inl ⟨by rfl, fun w' hSw => by (dsimp only at hSw; go_simp)⟩) hHeld ?_
                simp only [Act.put, List.setIfInBounds_toArray, List.set_cons_zero, List.set_cons_succ, List.getElem_cons_zero, List.getElem_cons_succ, List.getElem_toArray]
                refine wpAnyH_take (i := 6) (v := .int .i64 (y : Int)) rfl (by kernel_rfl) (by kernel_rfl) (by kernel_rfl) (fun _ _ _ h => h) (Or.inl ⟨by rfl, fun w' hSw => by (dsimp only at hSw; go_simp)⟩) hHeld ?_
                simp only [Act.put, List.setIfInBounds_toArray, List.set_cons_zero, List.set_cons_succ, List.getElem_cons_zero, List.getElem_cons_succ, List.getElem_toArray]
                refine wpAnyH_take (i := 8) (v := .int .i64 (x : Int)) rfl (by kernel_rfl) (by kernel_rfl) (by kernel_rfl) (fun _ _ _ h => h) (Or.inl ⟨by rfl, fun w' hSw => by (dsimp only at hSw; go_simp)⟩) hHeld ?_
                simp only [Act.put, List.setIfInBounds_toArray, List.set_cons_zero, List.set_cons_succ, List.getElem_cons_zero, List.getElem_cons_succ, List.getElem_toArray]
                refine wpAnyH_ready (rs := [2]) (by kernel_rfl) (by simp) ?_
                refine AllReadyH.cons rfl (fun K hK => ?_) AllReadyH.nil
                go_simp
                refine Calls.mono (HAf.out _ HBV.out) ?_
                rintro e w2 ⟨a2, c2, rfl, hI, hb⟩
                have HIA : Hid (Il w2 _ a2 xsA) := hI
                have HBN : Hid (Up w1 w2 w.heap.size (.slice ao ps.length cap)) := HBV.out.go hb
                clear HBV
                have HBV : Hid (Up w1 w2 w.heap.size (.slice ao ps.length cap)) := HBN.out
                clear HBN hI hb
                refine hK.out _ _ HBV.out.c (fun hHeld => ?_)
                clear hK K
                refine wpAnyH_ready (rs := [4]) (by kernel_rfl) (by simp) ?_
                refine AllReadyH.cons rfl (fun K hK => ?_) AllReadyH.nil
                go_simp
                refine Calls.mono (HhA.out _ _ _ _ HIA.out) ?_
                rintro e wN ⟨rfl, hw⟩
                subst wN
                clear HIA
                refine hK.out _ _ HBV.out.c (fun hHeld => ?_)
                clear hK K
                refine wpAnyH_ready (rs := [7]) (by kernel_rfl) (by simp) ?_
                refine AllReadyH.cons rfl (fun K hK => ?_) AllReadyH.nil
                go_simp
                refine Calls.mono (HAd.out _ HBV.out) ?_
                rintro e w7 ⟨a7, c7, rfl, hI, hb⟩
                have HIB : Hid (Il w7 _ a7 xsB) := hI
                have HBN : Hid (Up w1 w7 w.heap.size (.slice ao ps.length cap)) := HBV.out.go hb
                clear HBV
                have HBV : Hid (Up w1 w7 w.heap.size (.slice ao ps.length cap)) := HBN.out
                clear HBN hI hb
                refine hK.out _ _ HBV.out.c (fun hHeld => ?_)
                clear hK K
                refine wpAnyH_ready (rs := [9]) (by kernel_rfl) (by simp) ?_
                refine AllReadyH.cons rfl (fun K hK => ?_) AllReadyH.nil
                go_simp
                refine Calls.mono (HhB.out _ _ _ _ HIB.out) ?_
                rintro e wN ⟨rfl, hw⟩
                subst wN
                clear HIB
                refine hK.out _ _ HBV.out.c (fun hHeld => ?_)
                clear hK K
                refine wpAnyH_take (i := 10) (v := .bool false) rfl (by kernel_rfl) (by kernel_rfl) (by kernel_rfl) (fun _ _ _ h => h) (Or.inl ⟨by rfl, fun w' hSw => by (dsimp only at hSw; go_simp)⟩) hHeld ?_
                simp only [Act.put, List.setIfInBounds_toArray, List.set_cons_zero, List.set_cons_succ, List.getElem_cons_zero, List.getElem_cons_succ, List.getElem_toArray]
                refine wpAnyH_take (i := 11) (v := .bool false) rfl (by kernel_rfl) (by kernel_rfl) (by kernel_rfl) (fun _ _ _ h => h) (Or.inl ⟨by rfl, fun w' hSw => by (dsimp only at hSw; go_simp)⟩) hHeld ?_
                simp only [Act.put, List.setIfInBounds_toArray, List.set_cons_zero, List.set_cons_succ, List.getElem_cons_zero, List.getElem_cons_succ, List.getElem_toArray]
                refine wpAnyH_take (i := 12) (v := .slice aR xsR.length cR) rfl (by kernel_rfl) (by kernel_rfl) (by kernel_rfl) (fun _ _ _ h => h) (Or.inl ⟨by rfl, fun w' hSw => by (dsimp only at hSw; go_simp)⟩) hHeld ?_
                simp only [Act.put, List.setIfInBounds_toArray, List.set_cons_zero, List.set_cons_succ, List.getElem_cons_zero, List.getElem_cons_succ, List.getElem_toArray]
                refine wpAnyH_take (i := 13) (v := .int .i64 (x : Int)) rfl (by kernel_rfl) (by kernel_rfl) (by kernel_rfl) (fun _ _ _ h => h) (Or.inl ⟨by rfl, fun w' hSw => by (dsimp only at hSw; go_simp)⟩) hHeld ?_
                simp only [Act.put, List.setIfInBounds_toArray, List.set_cons_zero, List.set_cons_succ, List.getElem_cons_zero, List.getElem_cons_succ, List.getElem_toArray]
                refine wpAnyH_ready (rs := [14]) (by kernel_rfl) (by simp) ?_
                refine AllReadyH.cons rfl (fun K hK => ?_) AllReadyH.nil
                go_simp
                refine Calls.mono (HhX.out _ _ HBV.out) ?_
                rintro e wN ⟨rfl, hw⟩
                subst wN
                refine hK.out _ _ HBV.out.c (fun hHeld => ?_)
                clear hK K
                refine wpAnyH_take (i := 15) (v := .bool false) rfl (by kernel_rfl) (by kernel_rfl) (by kernel_rfl) (fun _ _ _ h => h) (Or.inl ⟨by rfl, fun w' hSw => by (dsimp only at hSw; go_simp)⟩) hHeld ?_
                simp only [Act.put, List.setIfInBounds_toArray, List.set_cons_zero, List.set_cons_succ, List.getElem_cons_zero, List.getElem_cons_succ, List.getElem_toArray]
                refine wpAnyH_take (i := 16) (v := undef) rfl (by kernel_rfl) (by kernel_rfl) (by kernel_rfl) (fun _ _ _ h => h) (Or.inr ⟨by rfl, rfl⟩) hHeld ?_
                simp only [Act.put, List.setIfInBounds_toArray, List.set_cons_zero, List.set_cons_succ, List.getElem_cons_zero, List.getElem_cons_succ, List.getElem_toArray]
                refine wpAnyH_take (i := 17) (v := undef) rfl (by kernel_rfl) (by kernel_rfl) (by kernel_rfl) (fun _ _ _ h => h) (Or.inr ⟨by rfl, rfl⟩) hHeld ?_
                simp only [Act.put, List.setIfInBounds_toArray, List.set_cons_zero, List.set_cons_succ, List.getElem_cons_zero, List.getElem_cons_succ, List.getElem_toArray]
                refine wpAnyH_take (i := 18) (v := undef) rfl (by kernel_rfl) (by kernel_rfl) (by kernel_rfl) (fun _ _ _ h => h) (Or.inr ⟨by rfl, rfl⟩) hHeld ?_
                simp only [Act.put, List.setIfInBounds_toArray, List.set_cons_zero, List.set_cons_succ, List.getElem_cons_zero, List.getElem_cons_succ, List.getElem_toArray]
                refine wpAnyH_take (i := 19) (v := undef) rfl (by kernel_rfl) (by kernel_rfl) (by kernel_rfl) (fun _ _ _ h => h) (Or.inr ⟨by rfl, rfl⟩) hHeld ?_
                simp only [Act.put, List.setIfInBounds_toArray, List.set_cons_zero, List.set_cons_succ, List.getElem_cons_zero, List.getElem_cons_succ, List.getElem_toArray]
                refine wpAnyH_take (i := 20) (v := undef) rfl (by kernel_rfl) (by kernel_rfl) (by kernel_rfl) (fun _ _ _ h => h) (Or.inr ⟨by rfl, rfl⟩) hHeld ?_
                simp only [Act.put, List.setIfInBounds_toArray, List.set_cons_zero, List.set_cons_succ, List.getElem_cons_zero, List.getElem_cons_succ, List.getElem_toArray]
                refine wpAnyH_take (i := 21) (v := .bool false) rfl (by kernel_rfl) (by kernel_rfl) (by kernel_rfl) (fun _ _ _ h => h) (Or.inl ⟨by rfl, fun w' hSw => by (dsimp only at hSw; go_simp)⟩) hHeld ?_
                simp only [Act.put, List.setIfInBounds_toArray, List.set_cons_zero, List.set_cons_succ, List.getElem_cons_zero, List.getElem_cons_succ, List.getElem_toArray]
                refine wpAnyH_take (i := 22) (v := .bool false) rfl (by kernel_rfl) (by kernel_rfl) (by kernel_rfl) (fun _ _ _ h => h) (Or.inl ⟨by rfl, fun w' hSw => by (dsimp only at hSw; go_simp)⟩) hHeld ?_
                simp only [Act.put, List.setIfInBounds_toArray, List.set_cons_zero, List.set_cons_succ, List.getElem_cons_zero, List.getElem_cons_succ, List.getElem_toArray]
                refine wpAnyH_take (i := 23) (v := undef) rfl (by kernel_rfl) (by kernel_rfl) (by kernel_rfl) (fun _ _ _ h => h) (Or.inr ⟨by rfl, rfl⟩) hHeld ?_
                simp only [Act.put, List.setIfInBounds_toArray, List.set_cons_zero, List.set_cons_succ, List.getElem_cons_zero, List.getElem_cons_succ, List.getElem_toArray]
                refine wpAnyH_take (i := 24) (v := undef) rfl (by kernel_rfl) (by kernel_rfl) (by kernel_rfl) (fun _ _ _ h => h) (Or.inr ⟨by rfl, rfl⟩) hHeld ?_
                simp only [Act.put, List.setIfInBounds_toArray, List.set_cons_zero, List.set_cons_succ, List.getElem_cons_zero, List.getElem_cons_succ, List.getElem_toArray]
                refine wpAnyH_take (i := 25) (v := undef) rfl (by kernel_rfl) (by kernel_rfl) (by kernel_rfl) (fun _ _ _ h => h) (Or.inr ⟨by rfl, rfl⟩) hHeld ?_
                simp only [Act.put, List.setIfInBounds_toArray, List.set_cons_zero, List.set_cons_succ, List.getElem_cons_zero, List.getElem_cons_succ, List.getElem_toArray]
                refine wpAnyH_take (i := 26) (v := undef) rfl (by kernel_rfl) (by kernel_rfl) (by kernel_rfl) (fun _ _ _ h => h) (Or.inr ⟨by rfl, rfl⟩) hHeld ?_
                simp only [Act.put, List.setIfInBounds_toArray, List.set_cons_zero, List.set_cons_succ, List.getElem_cons_zero, List.getElem_cons_succ, List.getElem_toArray]
                refine wpAnyH_take (i := 27) (v := .bool false) rfl (by kernel_rfl) (by kernel_rfl) (by kernel_rfl) (fun _ _ _ h => h) (Or.inl ⟨by rfl, fun w' hSw => by (dsimp only at hSw; go_simp)⟩) hHeld ?_
                simp only [Act.put, List.setIfInBounds_toArray, List.set_cons_zero, List.set_cons_succ, List.getElem_cons_zero, List.getElem_cons_succ, List.getElem_toArray]
                refine wpAnyH_take (i := 28) (v := .bool false) rfl (by kernel_rfl) (by kernel_rfl) (by kernel_rfl) (fun _ _ _ h => h) (Or.inl ⟨by rfl, fun w' hSw => by (dsimp only at hSw; go_simp)⟩) hHeld ?_
                simp only [Act.put, List.setIfInBounds_toArray, List.set_cons_zero, List.set_cons_succ, List.getElem_cons_zero, List.getElem_cons_succ, List.getElem_toArray]
                refine wpAnyH_done (by kernel_rfl) ?_ _
                go_wp2
                go_roundg (ps.length - y)
                case measure => omega
                case rel => exact ⟨y + 1, by go_num, by omega, by omega, HBV.out⟩
              · skip
                have HhA : Hid (∀ a c B W, Il W B a xsA → Calls Tryd.prog 15 #[.slice a xsA.length c, .int .i64 (y : Int)] W fun e w' => e = .returned (.bool false) ∧ w' = W) := fun a c B W h => by have := hasL_any a c xsA (y : Int) B W h (by omega); rw [decide_eq_false hm1] at this; exact this
                have HhB : Hid (∀ a c B W, Il W B a xsB → Calls Tryd.prog 15 #[.slice a xsB.length c, .int .i64 (x : Int)] W fun e w' => e = .returned (.bool false) ∧ w' = W) := fun a c B W h => by have := hasL_any a c xsB (x : Int) B W h (by omega); rw [decide_eq_false (fun h => hm1 (h12.out.2 h))] at this; exact this
                have HhX : Hid (∀ c W, Up w1 W w.heap.size (.slice ao ps.length cap) → Calls Tryd.prog 15 #[.slice aR xsR.length c, .int .i64 (x : Int)] W fun e w' => e = .returned (.bool false) ∧ w' = W) := fun c W h => by have := hasL_any aR c xsR (x : Int) _ W (HIR.out.below h.b) (by omega); rw [decide_eq_false hm3] at this; exact this
                clear hm1 hm3 h12 h35 HxA hcl HP HE HB1 hRH HIR
                go_wp2_with fail
                refine wp_region_held_drew (S := fun w' => w'.cell? ⟨w.heap.size, 0, none⟩ = some (.slice ao ps.length cap)) (by kernel_rfl) HBV.out.c (fun hHeld => ?_)
                refine wpAnyH_take (i := 0) (v := .agg #[.slice ao ps.length cap]) rfl (by kernel_rfl) (by kernel_rfl) (by kernel_rfl) (fun _ _ _ h => h) (Or.inl ⟨by rfl, fun w' hSw => by (dsimp only at hSw; go_simp)⟩) hHeld ?_
                simp only [Act.put, List.setIfInBounds_toArray, List.set_cons_zero, List.set_cons_succ, List.getElem_cons_zero, List.getElem_toArray]
                refine wpAnyH_take (i := 1) (v := .int .i64 (x : Int)) rfl (by kernel_rfl) (by kernel_rfl) (by kernel_rfl) (fun _ _ _ h => h) (Or.inl ⟨by rfl, fun w' hSw => by (dsimp only at hSw; go_simp)⟩) hHeld ?_
                simp only [Act.put, List.setIfInBounds_toArray, List.set_cons_zero, List.set_cons_succ, List.getElem_cons_zero, List.getElem_cons_succ, List.getElem_toArray]
                refine wpAnyH_take (i := 3) (v := .int .i64 (y : Int)) rfl (by kernel_rfl) (by kernel_rfl) (by kernel_rfl) (fun _ _ _ h => h) (Or.inl ⟨by rfl, fun w' hSw => by (dsimp only at hSw; go_simp)⟩) hHeld ?_
                simp only [Act.put, List.setIfInBounds_toArray, List.set_cons_zero, List.set_cons_succ, List.getElem_cons_zero, List.getElem_cons_succ, List.getElem_toArray]
                refine wpAnyH_take (i := 5) (v := .agg #[.slice ao ps.length cap]) rfl (by kernel_rfl) (by kernel_rfl) (by kernel_rfl) (fun _ _ _ h => h) (Or.inl ⟨by rfl, fun w' hSw => by (dsimp only at hSw; go_simp)⟩) hHeld ?_
                simp only [Act.put, List.setIfInBounds_toArray, List.set_cons_zero, List.set_cons_succ, List.getElem_cons_zero, List.getElem_cons_succ, List.getElem_toArray]
                refine wpAnyH_take (i := 6) (v := .int .i64 (y : Int)) rfl (by kernel_rfl) (by kernel_rfl) (by kernel_rfl) (fun _ _ _ h => h) (Or.inl ⟨by rfl, fun w' hSw => by (dsimp only at hSw; go_simp)⟩) hHeld ?_
                simp only [Act.put, List.setIfInBounds_toArray, List.set_cons_zero, List.set_cons_succ, List.getElem_cons_zero, List.getElem_cons_succ, List.getElem_toArray]
                refine wpAnyH_take (i := 8) (v := .int .i64 (x : Int)) rfl (by kernel_rfl) (by kernel_rfl) (by kernel_rfl) (fun _ _ _ h => h) (Or.inl ⟨by rfl, fun w' hSw => by (dsimp only at hSw; go_simp)⟩) hHeld ?_
                simp only [Act.put, List.setIfInBounds_toArray, List.set_cons_zero, List.set_cons_succ, List.getElem_cons_zero, List.getElem_cons_succ, List.getElem_toArray]
                refine wpAnyH_ready (rs := [2]) (by kernel_rfl) (by simp) ?_
                refine AllReadyH.cons rfl (fun K hK => ?_) AllReadyH.nil
                go_simp
                refine Calls.mono (HAf.out _ HBV.out) ?_
                rintro e w2 ⟨a2, c2, rfl, hI, hb⟩
                have HIA : Hid (Il w2 _ a2 xsA) := hI
                have HBN : Hid (Up w1 w2 w.heap.size (.slice ao ps.length cap)) := HBV.out.go hb
                clear HBV
                have HBV : Hid (Up w1 w2 w.heap.size (.slice ao ps.length cap)) := HBN.out
                clear HBN hI hb
                refine hK.out _ _ HBV.out.c (fun hHeld => ?_)
                clear hK K
                refine wpAnyH_ready (rs := [4]) (by kernel_rfl) (by simp) ?_
                refine AllReadyH.cons rfl (fun K hK => ?_) AllReadyH.nil
                go_simp
                refine Calls.mono (HhA.out _ _ _ _ HIA.out) ?_
                rintro e wN ⟨rfl, hw⟩
                subst wN
                clear HIA
                refine hK.out _ _ HBV.out.c (fun hHeld => ?_)
                clear hK K
                refine wpAnyH_ready (rs := [7]) (by kernel_rfl) (by simp) ?_
                refine AllReadyH.cons rfl (fun K hK => ?_) AllReadyH.nil
                go_simp
                refine Calls.mono (HAd.out _ HBV.out) ?_
                rintro e w7 ⟨a7, c7, rfl, hI, hb⟩
                have HIB : Hid (Il w7 _ a7 xsB) := hI
                have HBN : Hid (Up w1 w7 w.heap.size (.slice ao ps.length cap)) := HBV.out.go hb
                clear HBV
                have HBV : Hid (Up w1 w7 w.heap.size (.slice ao ps.length cap)) := HBN.out
                clear HBN hI hb
                refine hK.out _ _ HBV.out.c (fun hHeld => ?_)
                clear hK K
                refine wpAnyH_ready (rs := [9]) (by kernel_rfl) (by simp) ?_
                refine AllReadyH.cons rfl (fun K hK => ?_) AllReadyH.nil
                go_simp
                refine Calls.mono (HhB.out _ _ _ _ HIB.out) ?_
                rintro e wN ⟨rfl, hw⟩
                subst wN
                clear HIB
                refine hK.out _ _ HBV.out.c (fun hHeld => ?_)
                clear hK K
                refine wpAnyH_take (i := 10) (v := .bool false) rfl (by kernel_rfl) (by kernel_rfl) (by kernel_rfl) (fun _ _ _ h => h) (Or.inl ⟨by rfl, fun w' hSw => by (dsimp only at hSw; go_simp)⟩) hHeld ?_
                simp only [Act.put, List.setIfInBounds_toArray, List.set_cons_zero, List.set_cons_succ, List.getElem_cons_zero, List.getElem_cons_succ, List.getElem_toArray]
                refine wpAnyH_take (i := 11) (v := .bool false) rfl (by kernel_rfl) (by kernel_rfl) (by kernel_rfl) (fun _ _ _ h => h) (Or.inl ⟨by rfl, fun w' hSw => by (dsimp only at hSw; go_simp)⟩) hHeld ?_
                simp only [Act.put, List.setIfInBounds_toArray, List.set_cons_zero, List.set_cons_succ, List.getElem_cons_zero, List.getElem_cons_succ, List.getElem_toArray]
                refine wpAnyH_take (i := 12) (v := .slice aR xsR.length cR) rfl (by kernel_rfl) (by kernel_rfl) (by kernel_rfl) (fun _ _ _ h => h) (Or.inl ⟨by rfl, fun w' hSw => by (dsimp only at hSw; go_simp)⟩) hHeld ?_
                simp only [Act.put, List.setIfInBounds_toArray, List.set_cons_zero, List.set_cons_succ, List.getElem_cons_zero, List.getElem_cons_succ, List.getElem_toArray]
                refine wpAnyH_take (i := 13) (v := .int .i64 (x : Int)) rfl (by kernel_rfl) (by kernel_rfl) (by kernel_rfl) (fun _ _ _ h => h) (Or.inl ⟨by rfl, fun w' hSw => by (dsimp only at hSw; go_simp)⟩) hHeld ?_
                simp only [Act.put, List.setIfInBounds_toArray, List.set_cons_zero, List.set_cons_succ, List.getElem_cons_zero, List.getElem_cons_succ, List.getElem_toArray]
                refine wpAnyH_ready (rs := [14]) (by kernel_rfl) (by simp) ?_
                refine AllReadyH.cons rfl (fun K hK => ?_) AllReadyH.nil
                go_simp
                refine Calls.mono (HhX.out _ _ HBV.out) ?_
                rintro e wN ⟨rfl, hw⟩
                subst wN
                refine hK.out _ _ HBV.out.c (fun hHeld => ?_)
                clear hK K
                refine wpAnyH_take (i := 15) (v := .bool false) rfl (by kernel_rfl) (by kernel_rfl) (by kernel_rfl) (fun _ _ _ h => h) (Or.inl ⟨by rfl, fun w' hSw => by (dsimp only at hSw; go_simp)⟩) hHeld ?_
                simp only [Act.put, List.setIfInBounds_toArray, List.set_cons_zero, List.set_cons_succ, List.getElem_cons_zero, List.getElem_cons_succ, List.getElem_toArray]
                refine wpAnyH_take (i := 16) (v := undef) rfl (by kernel_rfl) (by kernel_rfl) (by kernel_rfl) (fun _ _ _ h => h) (Or.inr ⟨by rfl, rfl⟩) hHeld ?_
                simp only [Act.put, List.setIfInBounds_toArray, List.set_cons_zero, List.set_cons_succ, List.getElem_cons_zero, List.getElem_cons_succ, List.getElem_toArray]
                refine wpAnyH_take (i := 17) (v := undef) rfl (by kernel_rfl) (by kernel_rfl) (by kernel_rfl) (fun _ _ _ h => h) (Or.inr ⟨by rfl, rfl⟩) hHeld ?_
                simp only [Act.put, List.setIfInBounds_toArray, List.set_cons_zero, List.set_cons_succ, List.getElem_cons_zero, List.getElem_cons_succ, List.getElem_toArray]
                refine wpAnyH_take (i := 18) (v := undef) rfl (by kernel_rfl) (by kernel_rfl) (by kernel_rfl) (fun _ _ _ h => h) (Or.inr ⟨by rfl, rfl⟩) hHeld ?_
                simp only [Act.put, List.setIfInBounds_toArray, List.set_cons_zero, List.set_cons_succ, List.getElem_cons_zero, List.getElem_cons_succ, List.getElem_toArray]
                refine wpAnyH_take (i := 19) (v := undef) rfl (by kernel_rfl) (by kernel_rfl) (by kernel_rfl) (fun _ _ _ h => h) (Or.inr ⟨by rfl, rfl⟩) hHeld ?_
                simp only [Act.put, List.setIfInBounds_toArray, List.set_cons_zero, List.set_cons_succ, List.getElem_cons_zero, List.getElem_cons_succ, List.getElem_toArray]
                refine wpAnyH_take (i := 20) (v := undef) rfl (by kernel_rfl) (by kernel_rfl) (by kernel_rfl) (fun _ _ _ h => h) (Or.inr ⟨by rfl, rfl⟩) hHeld ?_
                simp only [Act.put, List.setIfInBounds_toArray, List.set_cons_zero, List.set_cons_succ, List.getElem_cons_zero, List.getElem_cons_succ, List.getElem_toArray]
                refine wpAnyH_take (i := 21) (v := .bool false) rfl (by kernel_rfl) (by kernel_rfl) (by kernel_rfl) (fun _ _ _ h => h) (Or.inl ⟨by rfl, fun w' hSw => by (dsimp only at hSw; go_simp)⟩) hHeld ?_
                simp only [Act.put, List.setIfInBounds_toArray, List.set_cons_zero, List.set_cons_succ, List.getElem_cons_zero, List.getElem_cons_succ, List.getElem_toArray]
                refine wpAnyH_take (i := 22) (v := .bool false) rfl (by kernel_rfl) (by kernel_rfl) (by kernel_rfl) (fun _ _ _ h => h) (Or.inl ⟨by rfl, fun w' hSw => by (dsimp only at hSw; go_simp)⟩) hHeld ?_
                simp only [Act.put, List.setIfInBounds_toArray, List.set_cons_zero, List.set_cons_succ, List.getElem_cons_zero, List.getElem_cons_succ, List.getElem_toArray]
                refine wpAnyH_take (i := 23) (v := undef) rfl (by kernel_rfl) (by kernel_rfl) (by kernel_rfl) (fun _ _ _ h => h) (Or.inr ⟨by rfl, rfl⟩) hHeld ?_
                simp only [Act.put, List.setIfInBounds_toArray, List.set_cons_zero, List.set_cons_succ, List.getElem_cons_zero, List.getElem_cons_succ, List.getElem_toArray]
                refine wpAnyH_take (i := 24) (v := undef) rfl (by kernel_rfl) (by kernel_rfl) (by kernel_rfl) (fun _ _ _ h => h) (Or.inr ⟨by rfl, rfl⟩) hHeld ?_
                simp only [Act.put, List.setIfInBounds_toArray, List.set_cons_zero, List.set_cons_succ, List.getElem_cons_zero, List.getElem_cons_succ, List.getElem_toArray]
                refine wpAnyH_take (i := 25) (v := undef) rfl (by kernel_rfl) (by kernel_rfl) (by kernel_rfl) (fun _ _ _ h => h) (Or.inr ⟨by rfl, rfl⟩) hHeld ?_
                simp only [Act.put, List.setIfInBounds_toArray, List.set_cons_zero, List.set_cons_succ, List.getElem_cons_zero, List.getElem_cons_succ, List.getElem_toArray]
                refine wpAnyH_take (i := 26) (v := undef) rfl (by kernel_rfl) (by kernel_rfl) (by kernel_rfl) (fun _ _ _ h => h) (Or.inr ⟨by rfl, rfl⟩) hHeld ?_
                simp only [Act.put, List.setIfInBounds_toArray, List.set_cons_zero, List.set_cons_succ, List.getElem_cons_zero, List.getElem_cons_succ, List.getElem_toArray]
                refine wpAnyH_take (i := 27) (v := .bool false) rfl (by kernel_rfl) (by kernel_rfl) (by kernel_rfl) (fun _ _ _ h => h) (Or.inl ⟨by rfl, fun w' hSw => by (dsimp only at hSw; go_simp)⟩) hHeld ?_
                simp only [Act.put, List.setIfInBounds_toArray, List.set_cons_zero, List.set_cons_succ, List.getElem_cons_zero, List.getElem_cons_succ, List.getElem_toArray]
                refine wpAnyH_take (i := 28) (v := .bool false) rfl (by kernel_rfl) (by kernel_rfl) (by kernel_rfl) (fun _ _ _ h => h) (Or.inl ⟨by rfl, fun w' hSw => by (dsimp only at hSw; go_simp)⟩) hHeld ?_
                simp only [Act.put, List.setIfInBounds_toArray, List.set_cons_zero, List.set_cons_succ, List.getElem_cons_zero, List.getElem_cons_succ, List.getElem_toArray]
                refine wpAnyH_done (by kernel_rfl) ?_ _
                go_wp2
                go_roundg (ps.length - y)
                case measure => omega
                case rel => exact ⟨y + 1, by go_num, by omega, by omega, HBV.out⟩
          · have hzy : ¬ (y : Int) < (ps.length : Int) := by omega
            go_wp2
            go_roundg (ps.length - x)
            case measure => omega
            case rel => exact ⟨x + 1, by go_num, by omega, by omega, HUy.out⟩
      · have hzx : ¬ (x : Int) < (ps.length : Int) := by omega
        obtain rfl : x = ps.length := by omega
        have HO : Hid (∀ W, Up w1 W w.heap.size (.slice ao ps.length cap) → Calls Tryd.prog 5 #[.agg #[.slice ao ps.length cap]] W fun e w' => ∃ a c, e = .returned (.slice a (ringsI ps).length c) ∧ Ll w' W.heap.size a (ringsI ps) ∧ Below W.heap.size W w') := fun W hU => by
          have hbW := HB1.out.trans (hU.b.mono HB1.out.size)
          refine (rings_any ao cap ps W (HP.out.below hbW) (HE.out.up hbW)).mono ?_
          rintro e w' ⟨v, rfl, a, c, rfl, h1, h2⟩
          exact ⟨a, c, rfl, h1, h2⟩
        have HW : Hid (∀ W, Up w1 W w.heap.size (.slice ao ps.length cap) → Calls Tryd.prog 14 #[] W fun e w' => e = .returned (.bool true) ∧ Below W.heap.size W w') := fun W hU => wakes_any W (HE.out.up (HB1.out.trans (hU.b.mono HB1.out.size)))
        obtain ⟨hnd0, hrg0⟩ := rings_flat ps
        obtain ⟨hsl, hsr0⟩ := rings_len ps
        obtain ⟨xss, hxss⟩ : ∃ l, l = ringsI ps := ⟨_, rfl⟩
        rw [← hxss] at HO hnd0 hrg0 hsl hsr0
        have hnd : Hid (xss.flatten.Nodup) := hnd0
        have hrg : Hid (∀ z ∈ xss.flatten, 0 ≤ z ∧ z < ps.length) := hrg0
        have hsr : Hid (∀ l ∈ xss, l.length ≤ ps.length) := hsr0
        obtain ⟨i0, hi, hi2⟩ := Option.map_eq_some_iff.1 info3
        simp only [Prod.mk.injEq] at hi2
        obtain ⟨hz0, hz1, hz2⟩ := hi2
        obtain ⟨wm, hrun, hrow, hgm⟩ := run_makeSlice_full (P := Tryd.prog) wr (w1.heap.size) 28 3 i0 (.int .i64 0) 1 Tryd.underlying28 hi hz0 hz1 .i64 .i64 ps.length (by omega) (by rw [hz2]; omega) (by unfold maxLen; omega) HUx.out.b.size
        have HC0 : Hid (Ct wm wr.heap.size ps.length (seen xss 0 0)) := Ct.made hrow xss
        have HUm : Hid (Up w1 wm w.heap.size (.slice ao ps.length cap)) := HUx.out.go ⟨hgm.os, hgm.tape, hgm.output, hgm.size, fun k hk => hgm.block k hk (by simp)⟩
        have cbm := HUm.out.c
        have hqlo : Hid (w1.heap.size ≤ wr.heap.size) := HUx.out.b.size
        clear hnd0 hrg0 hsr0 hxss hi hz0 hz1 hz2 HX hcl HP HE HUx hrow hgm
        generalize wr.heap.size = q at *
        go_wp2_with (first
          | (go_at_call 5; refine Calls.mono (HO.out _ HUm.out) ?_; rintro e w5 ⟨aS, cS, rfl, hL, hb⟩; have HT5 : Hid (T3 w1 w5 wm.heap.size w.heap.size (.slice ao ps.length cap) aS xss q ps.length 0 0) := ⟨(HUm.out.go hb).b, (HUm.out.go hb).c, HUm.out.lt, hqlo.out, HC0.out.lt, hL, HC0.out.go hb⟩; clear hL hb HO HUm cbm HC0))
        clear hrun hqlo
        generalize wm.heap.size = Bm at *
        go_loopg [70] (xss.length + 1) (fun g1 vk wr => ∃ (k : Nat), vk = .int .i64 k ∧ k ≤ xss.length ∧ xss.length - k < g1 ∧ Hid (T3 w1 wr Bm w.heap.size (.slice ao ps.length cap) aS xss q ps.length k 0))
        case atStart => exact ⟨0, rfl, by omega, by omega, HT5.out⟩
        case round =>
          clear HT5
          rename World => wy
          obtain ⟨k, rfl, hk, hg3, HT⟩ := hrel
          by_cases hlk : k < xss.length
          · have hzk : (k : Int) < (xss.length : Int) := by omega
            obtain ⟨bS, rfl, hS1, hS2, hS3⟩ := HT.out.ll.is (by omega)
            obtain ⟨aL, cL, cc, hIL⟩ := hS3 k hlk
            have hll := hsr.out xss[k] (List.getElem_mem hlk)
            have HIL : Hid (Il wy Bm aL xss[k]) := hIL
            have hmk : Hid (∀ j (hj : j < xss[k].length), xss[k][j] ∈ xss.flatten) := fun j hj => List.mem_flatten.2 ⟨xss[k], List.getElem_mem hlk, List.getElem_mem hj⟩
            have hfr : Hid (∀ j (hj : j < xss[k].length), ¬ xss[k][j] ∈ seen xss k j) := fun j hj => fresh_next hnd.out hlk hj
            clear hS1 hS2 hS3 hIL
            go_wp2
            clear cc
            go_loopg [11, 76] (xss[k].length + 1) (fun g2 v11 vj wr2 => ∃ (j : Nat), vj = .int .i64 j ∧ j ≤ xss[k].length ∧ xss[k].length - j < g2 ∧ Hid (T3 w1 wr2 Bm w.heap.size (.slice ao ps.length cap) (some ⟨bS, 0, none⟩) xss q ps.length k j ∧ Il wr2 Bm aL xss[k]))
            case atStart => exact ⟨0, rfl, by omega, by omega, HT.out, HIL.out⟩
            case round =>
              clear HT HIL
              rename World => wx
              obtain ⟨j, rfl, hj, hg4, HT⟩ := hrel
              by_cases hlj : j < xss[k].length
              · have hzj : (j : Int) < (xss[k].length : Int) := by omega
                obtain ⟨bL, rfl, hL1, hL2, hL3⟩ := HT.out.2.is (by omega)
                have cz := hL3 j hlj
                obtain ⟨z0, z1⟩ := hrg.out _ (hmk.out j hlj)
                obtain ⟨xz, hxz⟩ : ∃ xz : Nat, (xz : Int) = xss[k][j] := ⟨xss[k][j].toNat, by omega⟩
                have hfz : ¬ (xz : Int) ∈ seen xss k j := by rw [hxz]; exact hfr.out j hlj
                rw [← hxz] at cz z0 z1
                have hxn : xz < ps.length := by omega
                have cq := HT.out.1.ct.c xz hxn
                rw [if_neg hfz] at cq
                have fq := HT.out.1.ct.z xz
                have cq2 : (wx.setCell ⟨q, xz, none⟩ (.int .i64 1)).cell? ⟨q, xz, none⟩ = some (.int .i64 1) := World.cell?_setCell_same _ _ _ cq
                have HT2 : Hid (T3 w1 (wx.setCell ⟨q, xz, none⟩ (.int .i64 1)) Bm w.heap.size (.slice ao ps.length cap) (some ⟨bS, 0, none⟩) xss q ps.length k (j + 1) ∧ Il (wx.setCell ⟨q, xz, none⟩ (.int .i64 1)) Bm (some ⟨bL, 0, none⟩) xss[k]) :=
                  ⟨HT.out.1.put hxn hlk hlj hxz, HT.out.2.fr (X := One q) ((Fr.refl (One q) wx).setCell (Or.inr rfl) _ _) fun b hb _ e => by (have : b = q := e; have := HT.out.1.hB; omega)⟩
                clear HT hL1 hL2 hL3 hxz hfz
                go_wp2
                clear cz cq fq cq2
                generalize wx.setCell ⟨q, xz, none⟩ (.int .i64 1) = wv at HT2 ⊢
                go_roundg (xss[k].length - j)
                case measure => omega
                case rel => exact ⟨j + 1, by go_num, by omega, by omega, HT2.out⟩
              · have hzj : ¬ (j : Int) < (xss[k].length : Int) := by omega
                obtain rfl : j = xss[k].length := by omega
                have HT3 : Hid (T3 w1 wx Bm w.heap.size (.slice ao ps.length cap) (some ⟨bS, 0, none⟩) xss q ps.length (k + 1) 0) := T3.ring hlk HT.out.1
                clear HT
                go_wp2
                go_roundg (xss.length - k)
                case measure => omega
                case rel => exact ⟨k + 1, by go_num, by omega, by omega, HT3.out⟩
          · have hzk : ¬ (k : Int) < (xss.length : Int) := by omega
            have HU9 : Hid (Up w1 wy w.heap.size (.slice ao ps.length cap)) := ⟨HT.out.b, HT.out.c, HT.out.lx⟩
            clear HT
            rcases hRH.out with hr0 | hr0
            · subst hr0
              go_wp2_with (first | (go_at_call 14; refine Calls.mono (HW.out _ HU9.out) ?_; rintro e w9 ⟨rfl, hb⟩; have HB9 : Hid (Below w.heap.size w w9) := HB1.out.trans ((HU9.out.go hb).b.mono HB1.out.size); clear hb HW))
              go_ret
              exact ⟨rfl, HB9.out⟩
            · have hrp : 0 < xsR.length := by
                rcases Nat.eq_zero_or_pos xsR.length with h | h
                · rw [List.eq_nil_of_length_eq_zero h] at hr0; simp at hr0
                · exact h
              obtain ⟨bR, rfl, hR1, hR2, hR3⟩ := HIR.out.is hrp
              have hz0 : ((xsR.length : Int) == 0) = false := by rw [beq_eq_false_iff_ne]; omega
              have hzp : (0 : Int) < (xsR.length : Int) := by omega
              have cr : wy.cell? ⟨bR, 0, none⟩ = some (.int .i64 0) := by
                rw [World.cell?_of_block (w := w1) (HU9.out.b.block bR hR2), hR3 0 hrp]
                rw [List.getElem?_eq_getElem hrp] at hr0
                injection hr0 with hr0
                rw [hr0]
              clear hR1 hR2 hR3 hr0 HIR hRH
              go_wp2_with (first | (go_at_call 14; refine Calls.mono (HW.out _ HU9.out) ?_; rintro e w9 ⟨rfl, hb⟩; have HB9 : Hid (Below w.heap.size w w9) := HB1.out.trans ((HU9.out.go hb).b.mono HB1.out.size); clear hb HW))
              go_ret
              exact ⟨rfl, HB9.out⟩
end Go.Proofs.YtfdmahilgemlaaaDoor.Fl
