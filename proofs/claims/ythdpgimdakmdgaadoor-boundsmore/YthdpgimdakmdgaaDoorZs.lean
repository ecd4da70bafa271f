/- BoundsMore, over the program, for lists of up to 40: an operation more needs no fewer cycles, a unit more no more. Conditions: the list lies in memory, the variables as the program lays them. -/
import Derived.Test.YthdpgimdakmdgaaDoorZr
namespace Go.Proofs.YthdpgimdakmdgaaDoor.Bn
open Go.ChangeShapes Go.WideShapes Go.ChangeAt Go.RowKit
open _root_.Go.Proofs.YthdpgimdakmdgaaDoor.Op _root_.Go.Proofs.YthdpgimdakmdgaaDoor.So
open _root_.Go.Proofs.YthdpgimdakmdgaaDoor.Dp (drew_up)
open _root_.Go.Proofs.YthdpgimdakmdgaaDoor.Tb (Tab TabAt Bnds)
set_option maxRecDepth 20000

set_option maxHeartbeats 16000000 in
theorem more_short (ao : Option Addr) (cap : Nat) (xs : List O) (t : Tab) (o : O) (n : Int) (w : World) (h : OpsAt w ao xs) (hcap : xs.length ≤ cap) (hnil : ao = none → cap = 0) (ho : o.Ok) (hG : Bnds w) (hu : ∀ k, k < 4 → -9223372036854775808 ≤ t.u k ∧ t.u k ≤ 9223372036854775807) (hlong : xs.length ≤ 40) :
    Calls Tryd.prog 4 #[.slice ao xs.length cap, t.val, o.val, .int .i64 n] w fun e w' => e = .returned (.bool true) ∧ Below w.heap.size w w' := by
  obtain ⟨ys, hys⟩ : ∃ ys, ys = xs := ⟨_, rfl⟩
  have hyl : ys.length = xs.length := by rw [hys]
  have hO : OpsAt w ao ys := by rw [hys]; exact h
  have HYl : Hid (ys.length = xs.length) := hyl
  have HY40 : Hid (xs.length ≤ 40) := by show xs.length ≤ 40; omega
  have HOo : Hid o.Ok := ho
  have HNil : Hid (ao = none → cap = 0) := hnil
  have HOps : Hid (∀ W, Below w.heap.size w W → OpsAt W ao ys) := fun W hb => hO.below hb
  have HW : Hid (∀ W, Below w.heap.size w W → Calls Tryd.prog 12 #[] W fun e w' => e = .returned (.bool true) ∧ Below W.heap.size W w') := fun W hb => wakes_any W (hG.below hb hG.big)
  have HUt : Hid (∀ (u : Tab) W, Below w.heap.size w W → Calls Tryd.prog 6 #[.slice ao xs.length cap, u.val] W fun e w' => e = .returned (.tuple #[.int .i64 (unE u ys), .int .i64 (rgE u ys)]) ∧ Below W.heap.size W w') := fun u W hb => by
    have := units_any ao cap ys u W (hO.below hb) (by omega) (hG.below hb hG.big)
    rw [hyl] at this; exact this
  have HU1 : Hid (∀ W, Below w.heap.size w W → Calls Tryd.prog 6 #[.slice ao xs.length cap, .agg #[.int .i64 (t.u 0), .int .i64 (t.u 1), .int .i64 (t.u 2), .int .i64 (t.u 3), .int .i64 (t.l 0), .int .i64 (t.l 1), .int .i64 (t.l 2), .int .i64 (t.l 3), .int .i64 (t.b 0), .int .i64 (t.b 1), .int .i64 (t.b 2), .int .i64 (t.b 3), .int .i64 t.d]] W fun e w' => e = .returned (.tuple #[.int .i64 (unE t ys), .int .i64 (rgE t ys)]) ∧ Below W.heap.size W w') := fun W hb => HUt.out t W hb
  have HU2 : Hid (∀ W a c, Below w.heap.size w W → ∀ {B : Nat}, OOwn B W a c (ys ++ [o]) → Calls Tryd.prog 6 #[.slice a (ys ++ [o]).length c, .agg #[.int .i64 (t.u 0), .int .i64 (t.u 1), .int .i64 (t.u 2), .int .i64 (t.u 3), .int .i64 (t.l 0), .int .i64 (t.l 1), .int .i64 (t.l 2), .int .i64 (t.l 3), .int .i64 (t.b 0), .int .i64 (t.b 1), .int .i64 (t.b 2), .int .i64 (t.b 3), .int .i64 t.d]] W fun e w' => e = .returned (.tuple #[.int .i64 (unE t (ys ++ [o])), .int .i64 (rgE t (ys ++ [o]))]) ∧ Below W.heap.size W w') := fun W a c hb B hr =>
    units_any a c (ys ++ [o]) t W (hr.ops (fun x hx => by
      rcases List.mem_append.1 hx with hx | hx
      · exact hO.ok x hx
      · rw [List.mem_singleton.1 hx]; exact ho) (by rw [List.length_append]; have := HY40.out; simp; omega)) hr.cap (hG.below hb hG.big)
  have HU3 : Hid (∀ W a c, Below w.heap.size w W → ∀ {B : Nat}, OOwn B W a c (ys ++ [o]) → Calls Tryd.prog 6 #[.slice a (ys.length + 1) c, .agg #[.int .i64 (t.u 0), .int .i64 (t.u 1), .int .i64 (t.u 2), .int .i64 (t.u 3), .int .i64 (t.l 0), .int .i64 (t.l 1), .int .i64 (t.l 2), .int .i64 (t.l 3), .int .i64 (t.b 0), .int .i64 (t.b 1), .int .i64 (t.b 2), .int .i64 (t.b 3), .int .i64 t.d]] W fun e w' => e = .returned (.tuple #[.int .i64 (unE t (ys ++ [o])), .int .i64 (rgE t (ys ++ [o]))]) ∧ Below W.heap.size W w') := fun W a c hb B hr => by
    have := HU2.out W a c hb hr
    rw [List.length_append] at this
    exact this
  have HM1 : Hid (rgE t ys = 0 → rgE t (ys ++ [o]) = 0 → unE t ys ≤ unE t (ys ++ [o])) := un_more
  have HM2 : Hid (∀ k, rgE t ys = 0 → rgE (tup t k) ys = 0 → unE (tup t k) ys ≤ unE t ys) := fun k => un_less
  have HUb : Hid (∀ k, k < 4 → -9223372036854775808 ≤ t.u k ∧ t.u k ≤ 9223372036854775807) := hu
  have hlen := h.len
  have hlong' : ¬ (40 : Int) < (xs.length : Int) := by omega
  have hlen' : (xs.length : Int) ≤ 8796093022208 := by omega
  have hcap' : (xs.length : Int) ≤ (cap : Int) := by omega
  obtain ⟨c4, hc4⟩ : ∃ c4 : Nat, (n.tmod 4 + 4) % 4 = (c4 : Int) := ⟨((n.tmod 4 + 4) % 4).toNat, by have := Int.emod_nonneg (n.tmod 4 + 4) (show (4 : Int) ≠ 0 by omega); omega⟩
  have hc4' : c4 < 4 := by omega
  have hn1 : -4 < n.tmod 4 := by have := Int.lt_tmod_of_pos n (show (0 : Int) < 4 by omega); omega
  have hn2 : n.tmod 4 < 4 := Int.tmod_lt_of_pos n (by omega)
  have HC4 : Hid ((n.tmod 4 + 4) % 4 = (c4 : Int)) := hc4
  clear h hcap hG hO hyl hys hlong hnil ho hu hc4
  obtain ⟨b2, hb2⟩ : ∃ b2, unE t (ys ++ [o]) = b2 := ⟨_, rfl⟩
  obtain ⟨f2, hf2⟩ : ∃ f2, rgE t (ys ++ [o]) = f2 := ⟨_, rfl⟩
  rw [hb2, hf2] at HU2 HU3 HM1
  clear hb2 hf2
  obtain ⟨a1, ha1⟩ : ∃ a1, unE t ys = a1 := ⟨_, rfl⟩
  obtain ⟨e1, he1⟩ : ∃ e1, rgE t ys = e1 := ⟨_, rfl⟩
  rw [ha1, he1] at HU1 HM1 HM2
  clear ha1 he1
  have HU1b : Hid (∀ W, Below w.heap.size w W → Calls Tryd.prog 6 #[.slice ao xs.length cap, .agg #[.int .i64 (t.u 0), .int .i64 (t.u 1), .int .i64 (t.u 2), .int .i64 (t.u 3), .int .i64 (t.l 0), .int .i64 (t.l 1), .int .i64 (t.l 2), .int .i64 (t.l 3), .int .i64 (t.b 0), .int .i64 (t.b 1), .int .i64 (t.b 2), .int .i64 (t.b 3), .int .i64 t.d]] W fun e w' => e = .returned (.tuple #[.int .i64 a1, .int .i64 e1]) ∧ Below W.heap.size W w') := HU1.out
  unfold Tab.val at *
  go_enter Tryd.func4, Tryd.ntmps4
  go_upto_region 3 with fail
  go_upto_region 4 with (first
    | (go_at_call 6; refine Calls.mono (HU1.out _ (by go_grown)) ?_; rintro e w1 ⟨rfl, hb⟩; have HM : Hid (Mb w w1 t o) := Mb.start w t o hb; clear hb HU1))
  have HSz : Hid (w.heap.size + 1 < w1.heap.size) := HM.out.o.lt
  go_cut [11, 12] (fun u v wc => u = .int .i64 b2 ∧ v = .int .i64 f2 ∧ Mb w wc t o)
  case first =>
    refine wp_region_held_drew (S := fun W => Mc w W t o w1.heap.size) (by kernel_rfl) (Mc.next ⟨HM.out, Nat.le_refl _⟩ (drew_up _)) (fun hHeld => ?_)
    have HM0 : Hid (Mc w w1.drew t o w1.heap.size) := Mc.next ⟨HM.out, Nat.le_refl _⟩ (drew_up _)
    refine wpAnyH_take (i := 1) (v := .slice ao xs.length cap) rfl (by kernel_rfl) (by kernel_rfl) (by kernel_rfl) (fun _ _ _ h => h) (Or.inl ⟨by rfl, fun w' hSw => by (go_simp)⟩) hHeld ?_
    simp only [Act.put, List.setIfInBounds_toArray, List.set_cons_zero, List.set_cons_succ, List.getElem_cons_zero, List.getElem_cons_succ, List.getElem_toArray]
    refine wpAnyH_take (i := 3) (v := .agg #[.int .i8 o.op, .int .u8 o.d, .int .u8 o.a, .int .u8 o.b, .int .i64 o.im]) rfl (by kernel_rfl) (by kernel_rfl) (by kernel_rfl) (fun _ _ _ h => h) (Or.inl ⟨by rfl, fun w' hSw => by (have k2 := hSw.m.o; have o0 := k2.c 0 _ rfl; have o1 := k2.c 1 _ rfl; have o2 := k2.c 2 _ rfl; have o3 := k2.c 3 _ rfl; have o4 := k2.c 4 _ rfl; have ol := k2.lt; clear k2; go_simp)⟩) hHeld ?_
    simp only [Act.put, List.setIfInBounds_toArray, List.set_cons_zero, List.set_cons_succ, List.getElem_cons_zero, List.getElem_cons_succ, List.getElem_toArray]
    refine wpAnyH_take (i := 6) (v := .agg #[.int .i64 (t.u 0), .int .i64 (t.u 1), .int .i64 (t.u 2), .int .i64 (t.u 3), .int .i64 (t.l 0), .int .i64 (t.l 1), .int .i64 (t.l 2), .int .i64 (t.l 3), .int .i64 (t.b 0), .int .i64 (t.b 1), .int .i64 (t.b 2), .int .i64 (t.b 3), .int .i64 t.d]) rfl (by kernel_rfl) (by kernel_rfl) (by kernel_rfl) (fun _ _ _ h => h) (Or.inl ⟨by rfl, fun w' hSw => by (have k2 := hSw.m.t; have tu0 := k2.cu 0 (by decide); have tu1 := k2.cu 1 (by decide); have tu2 := k2.cu 2 (by decide); have tu3 := k2.cu 3 (by decide); have tl0 := k2.cl 0 (by decide); have tl1 := k2.cl 1 (by decide); have tl2 := k2.cl 2 (by decide); have tl3 := k2.cl 3 (by decide); have tb0 := k2.cb 0 (by decide); have tb1 := k2.cb 1 (by decide); have tb2 := k2.cb 2 (by decide); have tb3 := k2.cb 3 (by decide); have td := k2.cd; have tz := k2.lt; clear k2; go_simp)⟩) hHeld ?_
    simp only [Act.put, List.setIfInBounds_toArray, List.set_cons_zero, List.set_cons_succ, List.getElem_cons_zero, List.getElem_cons_succ, List.getElem_toArray]
    refine wpAnyH_ready (rs := [0, 4]) (by kernel_rfl) (by simp) ?_
    refine AllReadyH.cons rfl (fun K hK => ?_) (AllReadyH.cons rfl (fun K hK => ?_) AllReadyH.nil)
    · go_simp
      have HM1 : Hid (Mc w (w1.drew.alloc (.cells #[] 33)) t o w1.heap.size) := HM0.out.next ((Below.refl _ _).alloc (Nat.le_refl _) _)
      refine hK.out _ _ HM1.out (fun hHeld => ?_)
      clear hK K
      refine wpAnyH_ready (rs := [2, 4]) (by kernel_rfl) (by simp) ?_
      refine AllReadyH.cons rfl (fun K hK => ?_) (AllReadyH.cons rfl (fun K hK => ?_) AllReadyH.nil)
      · refine step_append_ops (es := []) (fs := ys) (B := w1.heap.size) (by rfl) _ _ (by rfl) (by rfl) (World.ownsRow_made (base := w1.heap.size) (e := 33) (size := 5) w1.drew #[] 0 HM0.out.s (by decide) rfl) HM1.out.s (by rw [HYl.out]; rfl) (HOps.out _ HM1.out.m.up) HNil.out (by rw [HYl.out]; have := HY40.out; show 0 + _ ≤ 1000; omega) ?_
        intro a2 c2 w2 ho2 hf2
        have HO2 : Hid (OOwn w1.heap.size w2 a2 c2 ys) := ho2
        have HM2 : Hid (Mc w w2 t o w1.heap.size) := HM1.out.from (hf2.below (B := w1.heap.size) HM1.out.s (fun k hk e => by have e : some w1.heap.size = some k := e; injection e with e; omega)) HSz.out
        clear ho2 hf2
        refine hK.out _ _ HM2.out (fun hHeld => ?_)
        clear hK K
        refine wpAnyH_ready (rs := [4]) (by kernel_rfl) (by simp) ?_
        refine AllReadyH.cons rfl (fun K hK => ?_) AllReadyH.nil
        go_simp
        have HM3 : Hid (Mc w (w2.alloc (.cells #[.int .i8 o.op, .int .u8 o.d, .int .u8 o.a, .int .u8 o.b, .int .i64 o.im] 33)) t o w1.heap.size) := HM2.out.next ((Below.refl _ _).alloc (Nat.le_refl _) _)
        refine hK.out _ _ HM3.out (fun hHeld => ?_)
        clear hK K
        have HO3 : Hid (OOwn w1.heap.size (w2.alloc (.cells #[.int .i8 o.op, .int .u8 o.d, .int .u8 o.a, .int .u8 o.b, .int .i64 o.im] 33)) a2 c2 ys) := HO2.out.up ((Below.refl _ _).alloc (Nat.le_refl _) _)
        have HA3 : Hid (OpsAt (w2.alloc (.cells #[.int .i8 o.op, .int .u8 o.d, .int .u8 o.a, .int .u8 o.b, .int .i64 o.im] 33)) (some ⟨w2.heap.size, 0, none⟩) [o]) := one_at HOo.out (At.new _ _ _)
        refine wpAnyH_ready (rs := [5]) (by kernel_rfl) (by simp) ?_
        refine AllReadyH.cons rfl (fun K hK => ?_) AllReadyH.nil
        refine step_append_ops (es := ys) (fs := [o]) (by rfl) _ _ (by rfl) (by rfl) HO3.out HM3.out.s (by rfl) HA3.out (fun h => by cases h) (by rw [HYl.out]; have := HY40.out; show _ + 1 ≤ 1000; omega) ?_
        intro a4 c4 w4 ho4 hf4
        have HO4 : Hid (OOwn w1.heap.size w4 a4 c4 (ys ++ [o])) := ho4
        have HM4 : Hid (Mc w w4 t o w1.heap.size) := HM3.out.from (hf4.below (B := w1.heap.size) HM3.out.s (fun k hk e => by have := (World.ownsRow.lt HO3.out k e).1; omega)) HSz.out
        clear ho4 hf4
        refine hK.out _ _ HM4.out (fun hHeld => ?_)
        clear hK K
        refine wpAnyH_ready (rs := [7]) (by kernel_rfl) (by simp) ?_
        refine AllReadyH.cons rfl (fun K hK => ?_) AllReadyH.nil
        go_simp
        refine Calls.mono (HU3.out w4 a4 c4 HM4.out.m.up HO4.out) ?_
        rintro e w5 ⟨rfl, hb5⟩
        have HM5 : Hid (Mc w w5 t o w1.heap.size) := HM4.out.next hb5
        clear hb5
        refine hK.out _ _ HM5.out (fun hHeld => ?_)
        clear hK K
        refine wpAnyH_take (i := 8) (v := .tuple #[.int .i64 b2, .int .i64 f2]) rfl (by kernel_rfl) (by kernel_rfl) (by kernel_rfl) (fun _ _ _ h => h) (Or.inl ⟨by rfl, fun w' hSw => by (go_simp)⟩) hHeld ?_
        simp only [Act.put, List.setIfInBounds_toArray, List.set_cons_zero, List.set_cons_succ, List.getElem_cons_zero, List.getElem_cons_succ, List.getElem_toArray]
        refine wpAnyH_take (i := 9) (v := .int .i64 b2) rfl (by kernel_rfl) (by kernel_rfl) (by kernel_rfl) (fun _ _ _ h => h) (Or.inl ⟨by rfl, fun w' hSw => by (go_simp)⟩) hHeld ?_
        simp only [Act.put, List.setIfInBounds_toArray, List.set_cons_zero, List.set_cons_succ, List.getElem_cons_zero, List.getElem_cons_succ, List.getElem_toArray]
        refine wpAnyH_take (i := 10) (v := .int .i64 f2) rfl (by kernel_rfl) (by kernel_rfl) (by kernel_rfl) (fun _ _ _ h => h) (Or.inl ⟨by rfl, fun w' hSw => by (go_simp)⟩) hHeld ?_
        simp only [Act.put, List.setIfInBounds_toArray, List.set_cons_zero, List.set_cons_succ, List.getElem_cons_zero, List.getElem_cons_succ, List.getElem_toArray]
        refine wpAnyH_take (i := 11) (v := .int .i64 b2) rfl (by kernel_rfl) (by kernel_rfl) (by kernel_rfl) (fun _ _ _ h => h) (Or.inl ⟨by rfl, fun w' hSw => by (go_simp)⟩) hHeld ?_
        simp only [Act.put, List.setIfInBounds_toArray, List.set_cons_zero, List.set_cons_succ, List.getElem_cons_zero, List.getElem_cons_succ, List.getElem_toArray]
        refine wpAnyH_take (i := 12) (v := .int .i64 f2) rfl (by kernel_rfl) (by kernel_rfl) (by kernel_rfl) (fun _ _ _ h => h) (Or.inl ⟨by rfl, fun w' hSw => by (go_simp)⟩) hHeld ?_
        simp only [Act.put, List.setIfInBounds_toArray, List.set_cons_zero, List.set_cons_succ, List.getElem_cons_zero, List.getElem_cons_succ, List.getElem_toArray]
        refine wpAnyH_done (by kernel_rfl) ?_ _
        go_wp2_with fail
        go_meet
        case rel => exact ⟨rfl, rfl, HM5.out.m⟩
      · go_simp
        have HM2 : Hid (Mc w ((w1.drew.alloc (.cells #[] 33)).alloc (.cells #[.int .i8 o.op, .int .u8 o.d, .int .u8 o.a, .int .u8 o.b, .int .i64 o.im] 33)) t o w1.heap.size) := HM1.out.next ((Below.refl _ _).alloc (Nat.le_refl _) _)
        refine hK.out _ _ HM2.out (fun hHeld => ?_)
        clear hK K
        refine wpAnyH_ready (rs := [2]) (by kernel_rfl) (by simp) ?_
        refine AllReadyH.cons rfl (fun K hK => ?_) AllReadyH.nil
        refine step_append_ops (es := []) (fs := ys) (B := w1.heap.size) (by rfl) _ _ (by rfl) (by rfl) (OOwn.up (World.ownsRow_made (base := w1.heap.size) (e := 33) (size := 5) w1.drew #[] 0 HM0.out.s (by decide) rfl) ((Below.refl _ _).alloc (Nat.le_refl _) _)) HM2.out.s (by rw [HYl.out]; rfl) (HOps.out _ HM2.out.m.up) HNil.out (by rw [HYl.out]; have := HY40.out; show 0 + _ ≤ 1000; omega) ?_
        intro a2 c2 w3 ho2 hf2
        have HO3 : Hid (OOwn w1.heap.size w3 a2 c2 ys) := ho2
        have HM3 : Hid (Mc w w3 t o w1.heap.size) := HM2.out.from (hf2.below (B := w1.heap.size) HM2.out.s (fun k hk e => by have e : some w1.heap.size = some k := e; injection e with e; omega)) HSz.out
        have HE1 : Hid ((w1.drew.alloc (.cells #[] 33)).heap.size = w1.heap.size + 1) := by show (w1.drew.alloc (.cells #[] 33)).heap.size = w1.heap.size + 1; rw [World.size_alloc]; rfl
        have HAn : Hid (At ((w1.drew.alloc (.cells #[] 33)).alloc (.cells #[.int .i8 o.op, .int .u8 o.d, .int .u8 o.a, .int .u8 o.b, .int .i64 o.im] 33)) (w1.heap.size + 1) #[.int .i8 o.op, .int .u8 o.d, .int .u8 o.a, .int .u8 o.b, .int .i64 o.im]) := by have h := At.new (w1.drew.alloc (.cells #[] 33)) #[.int .i8 o.op, .int .u8 o.d, .int .u8 o.a, .int .u8 o.b, .int .i64 o.im] 33; rw [HE1.out] at h; exact h
        have HA3 : Hid (OpsAt w3 (some ⟨w1.heap.size + 1, 0, none⟩) [o]) := one_at HOo.out (at_fr HAn.out hf2 (fun e => by have e : some w1.heap.size = some (w1.heap.size + 1) := e; injection e with e; omega))
        clear ho2 hf2
        refine hK.out _ _ HM3.out (fun hHeld => ?_)
        clear hK K
        refine wpAnyH_ready (rs := [5]) (by kernel_rfl) (by simp) ?_
        refine AllReadyH.cons rfl (fun K hK => ?_) AllReadyH.nil
        refine step_append_ops (es := ys) (fs := [o]) (by rfl) _ _ (by rfl) (by rfl) HO3.out HM3.out.s (by rfl) HA3.out (fun h => by cases h) (by rw [HYl.out]; have := HY40.out; show _ + 1 ≤ 1000; omega) ?_
        intro a4 c4 w4 ho4 hf4
        have HO4 : Hid (OOwn w1.heap.size w4 a4 c4 (ys ++ [o])) := ho4
        have HM4 : Hid (Mc w w4 t o w1.heap.size) := HM3.out.from (hf4.below (B := w1.heap.size) HM3.out.s (fun k hk e => by have := (World.ownsRow.lt HO3.out k e).1; omega)) HSz.out
        clear ho4 hf4
        refine hK.out _ _ HM4.out (fun hHeld => ?_)
        clear hK K
        refine wpAnyH_ready (rs := [7]) (by kernel_rfl) (by simp) ?_
        refine AllReadyH.cons rfl (fun K hK => ?_) AllReadyH.nil
        go_simp
        refine Calls.mono (HU3.out w4 a4 c4 HM4.out.m.up HO4.out) ?_
        rintro e w5 ⟨rfl, hb5⟩
        have HM5 : Hid (Mc w w5 t o w1.heap.size) := HM4.out.next hb5
        clear hb5
        refine hK.out _ _ HM5.out (fun hHeld => ?_)
        clear hK K
        refine wpAnyH_take (i := 8) (v := .tuple #[.int .i64 b2, .int .i64 f2]) rfl (by kernel_rfl) (by kernel_rfl) (by kernel_rfl) (fun _ _ _ h => h) (Or.inl ⟨by rfl, fun w' hSw => by (go_simp)⟩) hHeld ?_
        simp only [Act.put, List.setIfInBounds_toArray, List.set_cons_zero, List.set_cons_succ, List.getElem_cons_zero, List.getElem_cons_succ, List.getElem_toArray]
        refine wpAnyH_take (i := 9) (v := .int .i64 b2) rfl (by kernel_rfl) (by kernel_rfl) (by kernel_rfl) (fun _ _ _ h => h) (Or.inl ⟨by rfl, fun w' hSw => by (go_simp)⟩) hHeld ?_
        simp only [Act.put, List.setIfInBounds_toArray, List.set_cons_zero, List.set_cons_succ, List.getElem_cons_zero, List.getElem_cons_succ, List.getElem_toArray]
        refine wpAnyH_take (i := 10) (v := .int .i64 f2) rfl (by kernel_rfl) (by kernel_rfl) (by kernel_rfl) (fun _ _ _ h => h) (Or.inl ⟨by rfl, fun w' hSw => by (go_simp)⟩) hHeld ?_
        simp only [Act.put, List.setIfInBounds_toArray, List.set_cons_zero, List.set_cons_succ, List.getElem_cons_zero, List.getElem_cons_succ, List.getElem_toArray]
        refine wpAnyH_take (i := 11) (v := .int .i64 b2) rfl (by kernel_rfl) (by kernel_rfl) (by kernel_rfl) (fun _ _ _ h => h) (Or.inl ⟨by rfl, fun w' hSw => by (go_simp)⟩) hHeld ?_
        simp only [Act.put, List.setIfInBounds_toArray, List.set_cons_zero, List.set_cons_succ, List.getElem_cons_zero, List.getElem_cons_succ, List.getElem_toArray]
        refine wpAnyH_take (i := 12) (v := .int .i64 f2) rfl (by kernel_rfl) (by kernel_rfl) (by kernel_rfl) (fun _ _ _ h => h) (Or.inl ⟨by rfl, fun w' hSw => by (go_simp)⟩) hHeld ?_
        simp only [Act.put, List.setIfInBounds_toArray, List.set_cons_zero, List.set_cons_succ, List.getElem_cons_zero, List.getElem_cons_succ, List.getElem_toArray]
        refine wpAnyH_done (by kernel_rfl) ?_ _
        go_wp2_with fail
        go_meet
        case rel => exact ⟨rfl, rfl, HM5.out.m⟩
    · go_simp
      have HM1 : Hid (Mc w (w1.drew.alloc (.cells #[.int .i8 o.op, .int .u8 o.d, .int .u8 o.a, .int .u8 o.b, .int .i64 o.im] 33)) t o w1.heap.size) := HM0.out.next ((Below.refl _ _).alloc (Nat.le_refl _) _)
      refine hK.out _ _ HM1.out (fun hHeld => ?_)
      clear hK K
      refine wpAnyH_ready (rs := [0]) (by kernel_rfl) (by simp) ?_
      refine AllReadyH.cons rfl (fun K hK => ?_) AllReadyH.nil
      go_simp
      have HM2 : Hid (Mc w ((w1.drew.alloc (.cells #[.int .i8 o.op, .int .u8 o.d, .int .u8 o.a, .int .u8 o.b, .int .i64 o.im] 33)).alloc (.cells #[] 33)) t o w1.heap.size) := HM1.out.next ((Below.refl _ _).alloc (Nat.le_refl _) _)
      refine hK.out _ _ HM2.out (fun hHeld => ?_)
      clear hK K
      refine wpAnyH_ready (rs := [2]) (by kernel_rfl) (by simp) ?_
      refine AllReadyH.cons rfl (fun K hK => ?_) AllReadyH.nil
      have HE1 : Hid ((w1.drew.alloc (.cells #[.int .i8 o.op, .int .u8 o.d, .int .u8 o.a, .int .u8 o.b, .int .i64 o.im] 33)).heap.size = w1.heap.size + 1) := by show (w1.drew.alloc (.cells #[.int .i8 o.op, .int .u8 o.d, .int .u8 o.a, .int .u8 o.b, .int .i64 o.im] 33)).heap.size = w1.heap.size + 1; rw [World.size_alloc]; rfl
      refine step_append_ops (es := []) (fs := ys) (B := w1.heap.size) (by rfl) _ _ (by rfl) (by rfl) (by have h := World.ownsRow_made (base := w1.heap.size) (e := 33) (size := 5) (w1.drew.alloc (.cells #[.int .i8 o.op, .int .u8 o.d, .int .u8 o.a, .int .u8 o.b, .int .i64 o.im] 33)) #[] 0 HM1.out.s (by decide) rfl; rw [HE1.out] at h; exact h) HM2.out.s (by rw [HYl.out]; rfl) (HOps.out _ HM2.out.m.up) HNil.out (by rw [HYl.out]; have := HY40.out; show 0 + _ ≤ 1000; omega) ?_
      intro a2 c2 w3 ho2 hf2
      have HO3 : Hid (OOwn w1.heap.size w3 a2 c2 ys) := ho2
      have HM3 : Hid (Mc w w3 t o w1.heap.size) := HM2.out.from (hf2.below (B := w1.heap.size) HM2.out.s (fun k hk e => by have e : some (w1.heap.size + 1) = some k := e; injection e with e; omega)) HSz.out
      have HA3 : Hid (OpsAt w3 (some ⟨w1.heap.size, 0, none⟩) [o]) := one_at HOo.out (at_fr ((At.new w1.drew #[.int .i8 o.op, .int .u8 o.d, .int .u8 o.a, .int .u8 o.b, .int .i64 o.im] 33).alloc (.cells #[] 33)) hf2 (fun e => by have e : some (w1.heap.size + 1) = some w1.heap.size := e; injection e with e; omega))
      clear ho2 hf2
      refine hK.out _ _ HM3.out (fun hHeld => ?_)
      clear hK K
      refine wpAnyH_ready (rs := [5]) (by kernel_rfl) (by simp) ?_
      refine AllReadyH.cons rfl (fun K hK => ?_) AllReadyH.nil
      refine step_append_ops (es := ys) (fs := [o]) (by rfl) _ _ (by rfl) (by rfl) HO3.out HM3.out.s (by rfl) HA3.out (fun h => by cases h) (by rw [HYl.out]; have := HY40.out; show _ + 1 ≤ 1000; omega) ?_
      intro a4 c4 w4 ho4 hf4
      have HO4 : Hid (OOwn w1.heap.size w4 a4 c4 (ys ++ [o])) := ho4
      have HM4 : Hid (Mc w w4 t o w1.heap.size) := HM3.out.from (hf4.below (B := w1.heap.size) HM3.out.s (fun k hk e => by have := (World.ownsRow.lt HO3.out k e).1; omega)) HSz.out
      clear ho4 hf4
      refine hK.out _ _ HM4.out (fun hHeld => ?_)
      clear hK K
      refine wpAnyH_ready (rs := [7]) (by kernel_rfl) (by simp) ?_
      refine AllReadyH.cons rfl (fun K hK => ?_) AllReadyH.nil
      go_simp
      refine Calls.mono (HU3.out w4 a4 c4 HM4.out.m.up HO4.out) ?_
      rintro e w5 ⟨rfl, hb5⟩
      have HM5 : Hid (Mc w w5 t o w1.heap.size) := HM4.out.next hb5
      clear hb5
      refine hK.out _ _ HM5.out (fun hHeld => ?_)
      clear hK K
      refine wpAnyH_take (i := 8) (v := .tuple #[.int .i64 b2, .int .i64 f2]) rfl (by kernel_rfl) (by kernel_rfl) (by kernel_rfl) (fun _ _ _ h => h) (Or.inl ⟨by rfl, fun w' hSw => by (go_simp)⟩) hHeld ?_
      simp only [Act.put, List.setIfInBounds_toArray, List.set_cons_zero, List.set_cons_succ, List.getElem_cons_zero, List.getElem_cons_succ, List.getElem_toArray]
      refine wpAnyH_take (i := 9) (v := .int .i64 b2) rfl (by kernel_rfl) (by kernel_rfl) (by kernel_rfl) (fun _ _ _ h => h) (Or.inl ⟨by rfl, fun w' hSw => by (go_simp)⟩) hHeld ?_
      simp only [Act.put, List.setIfInBounds_toArray, List.set_cons_zero, List.set_cons_succ, List.getElem_cons_zero, List.getElem_cons_succ, List.getElem_toArray]
      refine wpAnyH_take (i := 10) (v := .int .i64 f2) rfl (by kernel_rfl) (by kernel_rfl) (by kernel_rfl) (fun _ _ _ h => h) (Or.inl ⟨by rfl, fun w' hSw => by (go_simp)⟩) hHeld ?_
      simp only [Act.put, List.setIfInBounds_toArray, List.set_cons_zero, List.set_cons_succ, List.getElem_cons_zero, List.getElem_cons_succ, List.getElem_toArray]
      refine wpAnyH_take (i := 11) (v := .int .i64 b2) rfl (by kernel_rfl) (by kernel_rfl) (by kernel_rfl) (fun _ _ _ h => h) (Or.inl ⟨by rfl, fun w' hSw => by (go_simp)⟩) hHeld ?_
      simp only [Act.put, List.setIfInBounds_toArray, List.set_cons_zero, List.set_cons_succ, List.getElem_cons_zero, List.getElem_cons_succ, List.getElem_toArray]
      refine wpAnyH_take (i := 12) (v := .int .i64 f2) rfl (by kernel_rfl) (by kernel_rfl) (by kernel_rfl) (fun _ _ _ h => h) (Or.inl ⟨by rfl, fun w' hSw => by (go_simp)⟩) hHeld ?_
      simp only [Act.put, List.setIfInBounds_toArray, List.set_cons_zero, List.set_cons_succ, List.getElem_cons_zero, List.getElem_cons_succ, List.getElem_toArray]
      refine wpAnyH_done (by kernel_rfl) ?_ _
      go_wp2_with fail
      go_meet
      case rel => exact ⟨rfl, rfl, HM5.out.m⟩
  case rest =>
    obtain ⟨rfl, rfl, hm⟩ := hcut
    rename World => wc
    have HC : Hid (Mb w wc t o) := hm
    clear hm HM HU2 HU3 HSz
    by_cases he : e1 = 0
    · subst he
      by_cases hf : f2 = 0
      · have hba : ¬ b2 < a1 := by have := HM1.out rfl hf; omega
        subst hf
        clear HM1
        have tC := HC.out.t
        have tu0 := tC.cu 0 (by decide); have tu1 := tC.cu 1 (by decide); have tu2 := tC.cu 2 (by decide); have tu3 := tC.cu 3 (by decide); have tl0 := tC.cl 0 (by decide); have tl1 := tC.cl 1 (by decide); have tl2 := tC.cl 2 (by decide); have tl3 := tC.cl 3 (by decide); have tb0 := tC.cb 0 (by decide); have tb1 := tC.cb 1 (by decide); have tb2 := tC.cb 2 (by decide); have tb3 := tC.cb 3 (by decide); have td := tC.cd; have tz := tC.lt
        clear tC
        go_upto_region 8 with fail
        rw [HC4.out]
        have hcs : c4 = 0 ∨ c4 = 1 ∨ c4 = 2 ∨ c4 = 3 := by omega
        rcases hcs with rfl | rfl | rfl | rfl
        · have HUk : Hid (∀ W, Below w.heap.size w W → Calls Tryd.prog 6 #[.slice ao xs.length cap, .agg #[.int .i64 (t.u 0 + 1), .int .i64 (t.u 1), .int .i64 (t.u 2), .int .i64 (t.u 3), .int .i64 (t.l 0), .int .i64 (t.l 1), .int .i64 (t.l 2), .int .i64 (t.l 3), .int .i64 (t.b 0), .int .i64 (t.b 1), .int .i64 (t.b 2), .int .i64 (t.b 3), .int .i64 t.d]] W fun e w' => e = .returned (.tuple #[.int .i64 (unE (tup t 0) ys), .int .i64 (rgE (tup t 0) ys)]) ∧ Below W.heap.size W w') := fun W hb => HUt.out (tup t 0) W hb
          have HLs : Hid (_) := HM2.out 0
          have hub := HUb.out 0 (by omega)
          obtain ⟨ck, hck⟩ : ∃ ck, unE (tup t 0) ys = ck := ⟨_, rfl⟩
          obtain ⟨gk, hgk⟩ : ∃ gk, rgE (tup t 0) ys = gk := ⟨_, rfl⟩
          rw [hck, hgk] at HUk HLs
          clear hck hgk
          have HD0 : Hid (TabAt (wc.alloc (.cells #[.int .i64 (t.u 0), .int .i64 (t.u 1), .int .i64 (t.u 2), .int .i64 (t.u 3), .int .i64 (t.l 0), .int .i64 (t.l 1), .int .i64 (t.l 2), .int .i64 (t.l 3), .int .i64 (t.b 0), .int .i64 (t.b 1), .int .i64 (t.b 2), .int .i64 (t.b 3), .int .i64 t.d] 25)) wc.heap.size t ∧ Below wc.heap.size wc (wc.alloc (.cells #[.int .i64 (t.u 0), .int .i64 (t.u 1), .int .i64 (t.u 2), .int .i64 (t.u 3), .int .i64 (t.l 0), .int .i64 (t.l 1), .int .i64 (t.l 2), .int .i64 (t.l 3), .int .i64 (t.b 0), .int .i64 (t.b 1), .int .i64 (t.b 2), .int .i64 (t.b 3), .int .i64 t.d] 25))) := ⟨Tb.tabAt_new wc t 25, (Below.refl _ _).alloc (Nat.le_refl _) _⟩
          have HD1 : Hid (TabAt (wc.alloc (.cells #[.int .i64 (t.u 0 + 1), .int .i64 (t.u 1), .int .i64 (t.u 2), .int .i64 (t.u 3), .int .i64 (t.l 0), .int .i64 (t.l 1), .int .i64 (t.l 2), .int .i64 (t.l 3), .int .i64 (t.b 0), .int .i64 (t.b 1), .int .i64 (t.b 2), .int .i64 (t.b 3), .int .i64 t.d] 25)) wc.heap.size (tup t 0) ∧ Below wc.heap.size wc (wc.alloc (.cells #[.int .i64 (t.u 0 + 1), .int .i64 (t.u 1), .int .i64 (t.u 2), .int .i64 (t.u 3), .int .i64 (t.l 0), .int .i64 (t.l 1), .int .i64 (t.l 2), .int .i64 (t.l 3), .int .i64 (t.b 0), .int .i64 (t.b 1), .int .i64 (t.b 2), .int .i64 (t.b 3), .int .i64 t.d] 25))) := ⟨Tb.tabAt_new wc (tup t 0) 25, (Below.refl _ _).alloc (Nat.le_refl _) _⟩
          by_cases hu8 : t.u 0 < 8
          · go_upto_region 11 with fail
            generalize (wc.alloc (.cells #[.int .i64 (t.u 0 + 1), .int .i64 (t.u 1), .int .i64 (t.u 2), .int .i64 (t.u 3), .int .i64 (t.l 0), .int .i64 (t.l 1), .int .i64 (t.l 2), .int .i64 (t.l 3), .int .i64 (t.b 0), .int .i64 (t.b 1), .int .i64 (t.b 2), .int .i64 (t.b 3), .int .i64 t.d] 25)) = X at *
            clear tu0 tu1 tu2 tu3 tl0 tl1 tl2 tl3 tb0 tb1 tb2 tb3 td tz
            have HX : Hid (Mb w X t o) := HC.out.next HD1.out.2
            have tD : TabAt X wc.heap.size (tup t 0) := HD1.out.1
            have tu0 : X.cell? ⟨wc.heap.size, 0, none⟩ = some (.int .i64 (t.u 0 + 1)) := tD.cu 0 (by decide); have tu1 : X.cell? ⟨wc.heap.size, 1, none⟩ = some (.int .i64 (t.u 1)) := tD.cu 1 (by decide); have tu2 : X.cell? ⟨wc.heap.size, 2, none⟩ = some (.int .i64 (t.u 2)) := tD.cu 2 (by decide); have tu3 : X.cell? ⟨wc.heap.size, 3, none⟩ = some (.int .i64 (t.u 3)) := tD.cu 3 (by decide); have tl0 : X.cell? ⟨wc.heap.size, 4, none⟩ = some (.int .i64 (t.l 0)) := tD.cl 0 (by decide); have tl1 : X.cell? ⟨wc.heap.size, 5, none⟩ = some (.int .i64 (t.l 1)) := tD.cl 1 (by decide); have tl2 : X.cell? ⟨wc.heap.size, 6, none⟩ = some (.int .i64 (t.l 2)) := tD.cl 2 (by decide); have tl3 : X.cell? ⟨wc.heap.size, 7, none⟩ = some (.int .i64 (t.l 3)) := tD.cl 3 (by decide); have tb0 : X.cell? ⟨wc.heap.size, 8, none⟩ = some (.int .i64 (t.b 0)) := tD.cb 0 (by decide); have tb1 : X.cell? ⟨wc.heap.size, 9, none⟩ = some (.int .i64 (t.b 1)) := tD.cb 1 (by decide); have tb2 : X.cell? ⟨wc.heap.size, 10, none⟩ = some (.int .i64 (t.b 2)) := tD.cb 2 (by decide); have tb3 : X.cell? ⟨wc.heap.size, 11, none⟩ = some (.int .i64 (t.b 3)) := tD.cb 3 (by decide); have td : X.cell? ⟨wc.heap.size, 12, none⟩ = some (.int .i64 t.d) := tD.cd; have tz := tD.lt
            clear tD
            generalize wc.heap.size = ub at *
            by_cases hgk : gk = 0
            · have hle : ck ≤ a1 := HLs.out rfl hgk
              subst hgk
              go_wp2_with (first
                | (go_at_call 6; refine Calls.mono (HUk.out _ HX.out.up) ?_; rintro e w6 ⟨rfl, hb⟩; have HX6 : Hid (Mb w w6 t o) := HX.out.next hb; clear hb HUk HX; clear tu0 tu1 tu2 tu3 tl0 tl1 tl2 tl3 tb0 tb1 tb2 tb3 td tz)
                | (go_at_call 12; refine Calls.mono (HW.out _ HX6.out.up) ?_; rintro e w7 ⟨rfl, hb⟩; have HX7 : Hid (Mb w w7 t o) := HX6.out.next hb; clear hb HW HX6))
              go_ret
              exact ⟨rfl, HX7.out.up⟩
            · have hgk' : (gk != 0) = true := by simpa using hgk
              clear hgk
              go_wp2_with (first
                | (go_at_call 6; refine Calls.mono (HUk.out _ HX.out.up) ?_; rintro e w6 ⟨rfl, hb⟩; have HX6 : Hid (Mb w w6 t o) := HX.out.next hb; clear hb HUk HX; clear tu0 tu1 tu2 tu3 tl0 tl1 tl2 tl3 tb0 tb1 tb2 tb3 td tz)
                | (go_at_call 12; refine Calls.mono (HW.out _ HX6.out.up) ?_; rintro e w7 ⟨rfl, hb⟩; have HX7 : Hid (Mb w w7 t o) := HX6.out.next hb; clear hb HW HX6))
              go_ret
              exact ⟨rfl, HX7.out.up⟩
          · have HUk : Hid (∀ W, Below w.heap.size w W → Calls Tryd.prog 6 #[.slice ao xs.length cap, .agg #[.int .i64 (t.u 0), .int .i64 (t.u 1), .int .i64 (t.u 2), .int .i64 (t.u 3), .int .i64 (t.l 0), .int .i64 (t.l 1), .int .i64 (t.l 2), .int .i64 (t.l 3), .int .i64 (t.b 0), .int .i64 (t.b 1), .int .i64 (t.b 2), .int .i64 (t.b 3), .int .i64 t.d]] W fun e w' => e = .returned (.tuple #[.int .i64 a1, .int .i64 0]) ∧ Below W.heap.size W w') := HU1b.out
            go_upto_region 11 with fail
            generalize (wc.alloc (.cells #[.int .i64 (t.u 0), .int .i64 (t.u 1), .int .i64 (t.u 2), .int .i64 (t.u 3), .int .i64 (t.l 0), .int .i64 (t.l 1), .int .i64 (t.l 2), .int .i64 (t.l 3), .int .i64 (t.b 0), .int .i64 (t.b 1), .int .i64 (t.b 2), .int .i64 (t.b 3), .int .i64 t.d] 25)) = X at *
            clear tu0 tu1 tu2 tu3 tl0 tl1 tl2 tl3 tb0 tb1 tb2 tb3 td tz
            have HX : Hid (Mb w X t o) := HC.out.next HD0.out.2
            have tD : TabAt X wc.heap.size t := HD0.out.1
            have tu0 := tD.cu 0 (by decide); have tu1 := tD.cu 1 (by decide); have tu2 := tD.cu 2 (by decide); have tu3 := tD.cu 3 (by decide); have tl0 := tD.cl 0 (by decide); have tl1 := tD.cl 1 (by decide); have tl2 := tD.cl 2 (by decide); have tl3 := tD.cl 3 (by decide); have tb0 := tD.cb 0 (by decide); have tb1 := tD.cb 1 (by decide); have tb2 := tD.cb 2 (by decide); have tb3 := tD.cb 3 (by decide); have td := tD.cd; have tz := tD.lt
            clear tD
            generalize wc.heap.size = ub at *
            have hle : a1 ≤ a1 := Int.le_refl _
            go_wp2_with (first
              | (go_at_call 6; refine Calls.mono (HUk.out _ HX.out.up) ?_; rintro e w6 ⟨rfl, hb⟩; have HX6 : Hid (Mb w w6 t o) := HX.out.next hb; clear hb HUk HX; clear tu0 tu1 tu2 tu3 tl0 tl1 tl2 tl3 tb0 tb1 tb2 tb3 td tz)
              | (go_at_call 12; refine Calls.mono (HW.out _ HX6.out.up) ?_; rintro e w7 ⟨rfl, hb⟩; have HX7 : Hid (Mb w w7 t o) := HX6.out.next hb; clear hb HW HX6))
            go_ret
            exact ⟨rfl, HX7.out.up⟩
        · have HUk : Hid (∀ W, Below w.heap.size w W → Calls Tryd.prog 6 #[.slice ao xs.length cap, .agg #[.int .i64 (t.u 0), .int .i64 (t.u 1 + 1), .int .i64 (t.u 2), .int .i64 (t.u 3), .int .i64 (t.l 0), .int .i64 (t.l 1), .int .i64 (t.l 2), .int .i64 (t.l 3), .int .i64 (t.b 0), .int .i64 (t.b 1), .int .i64 (t.b 2), .int .i64 (t.b 3), .int .i64 t.d]] W fun e w' => e = .returned (.tuple #[.int .i64 (unE (tup t 1) ys), .int .i64 (rgE (tup t 1) ys)]) ∧ Below W.heap.size W w') := fun W hb => HUt.out (tup t 1) W hb
          have HLs : Hid (_) := HM2.out 1
          have hub := HUb.out 1 (by omega)
          obtain ⟨ck, hck⟩ : ∃ ck, unE (tup t 1) ys = ck := ⟨_, rfl⟩
          obtain ⟨gk, hgk⟩ : ∃ gk, rgE (tup t 1) ys = gk := ⟨_, rfl⟩
          rw [hck, hgk] at HUk HLs
          clear hck hgk
          have HD0 : Hid (TabAt (wc.alloc (.cells #[.int .i64 (t.u 0), .int .i64 (t.u 1), .int .i64 (t.u 2), .int .i64 (t.u 3), .int .i64 (t.l 0), .int .i64 (t.l 1), .int .i64 (t.l 2), .int .i64 (t.l 3), .int .i64 (t.b 0), .int .i64 (t.b 1), .int .i64 (t.b 2), .int .i64 (t.b 3), .int .i64 t.d] 25)) wc.heap.size t ∧ Below wc.heap.size wc (wc.alloc (.cells #[.int .i64 (t.u 0), .int .i64 (t.u 1), .int .i64 (t.u 2), .int .i64 (t.u 3), .int .i64 (t.l 0), .int .i64 (t.l 1), .int .i64 (t.l 2), .int .i64 (t.l 3), .int .i64 (t.b 0), .int .i64 (t.b 1), .int .i64 (t.b 2), .int .i64 (t.b 3), .int .i64 t.d] 25))) := ⟨Tb.tabAt_new wc t 25, (Below.refl _ _).alloc (Nat.le_refl _) _⟩
          have HD1 : Hid (TabAt (wc.alloc (.cells #[.int .i64 (t.u 0), .int .i64 (t.u 1 + 1), .int .i64 (t.u 2), .int .i64 (t.u 3), .int .i64 (t.l 0), .int .i64 (t.l 1), .int .i64 (t.l 2), .int .i64 (t.l 3), .int .i64 (t.b 0), .int .i64 (t.b 1), .int .i64 (t.b 2), .int .i64 (t.b 3), .int .i64 t.d] 25)) wc.heap.size (tup t 1) ∧ Below wc.heap.size wc (wc.alloc (.cells #[.int .i64 (t.u 0), .int .i64 (t.u 1 + 1), .int .i64 (t.u 2), .int .i64 (t.u 3), .int .i64 (t.l 0), .int .i64 (t.l 1), .int .i64 (t.l 2), .int .i64 (t.l 3), .int .i64 (t.b 0), .int .i64 (t.b 1), .int .i64 (t.b 2), .int .i64 (t.b 3), .int .i64 t.d] 25))) := ⟨Tb.tabAt_new wc (tup t 1) 25, (Below.refl _ _).alloc (Nat.le_refl _) _⟩
          by_cases hu8 : t.u 1 < 8
          · go_upto_region 11 with fail
            generalize (wc.alloc (.cells #[.int .i64 (t.u 0), .int .i64 (t.u 1 + 1), .int .i64 (t.u 2), .int .i64 (t.u 3), .int .i64 (t.l 0), .int .i64 (t.l 1), .int .i64 (t.l 2), .int .i64 (t.l 3), .int .i64 (t.b 0), .int .i64 (t.b 1), .int .i64 (t.b 2), .int .i64 (t.b 3), .int .i64 t.d] 25)) = X at *
            clear tu0 tu1 tu2 tu3 tl0 tl1 tl2 tl3 tb0 tb1 tb2 tb3 td tz
            have HX : Hid (Mb w X t o) := HC.out.next HD1.out.2
            have tD : TabAt X wc.heap.size (tup t 1) := HD1.out.1
            have tu0 : X.cell? ⟨wc.heap.size, 0, none⟩ = some (.int .i64 (t.u 0)) := tD.cu 0 (by decide); have tu1 : X.cell? ⟨wc.heap.size, 1, none⟩ = some (.int .i64 (t.u 1 + 1)) := tD.cu 1 (by decide); have tu2 : X.cell? ⟨wc.heap.size, 2, none⟩ = some (.int .i64 (t.u 2)) := tD.cu 2 (by decide); have tu3 : X.cell? ⟨wc.heap.size, 3, none⟩ = some (.int .i64 (t.u 3)) := tD.cu 3 (by decide); have tl0 : X.cell? ⟨wc.heap.size, 4, none⟩ = some (.int .i64 (t.l 0)) := tD.cl 0 (by decide); have tl1 : X.cell? ⟨wc.heap.size, 5, none⟩ = some (.int .i64 (t.l 1)) := tD.cl 1 (by decide); have tl2 : X.cell? ⟨wc.heap.size, 6, none⟩ = some (.int .i64 (t.l 2)) := tD.cl 2 (by decide); have tl3 : X.cell? ⟨wc.heap.size, 7, none⟩ = some (.int .i64 (t.l 3)) := tD.cl 3 (by decide); have tb0 : X.cell? ⟨wc.heap.size, 8, none⟩ = some (.int .i64 (t.b 0)) := tD.cb 0 (by decide); have tb1 : X.cell? ⟨wc.heap.size, 9, none⟩ = some (.int .i64 (t.b 1)) := tD.cb 1 (by decide); have tb2 : X.cell? ⟨wc.heap.size, 10, none⟩ = some (.int .i64 (t.b 2)) := tD.cb 2 (by decide); have tb3 : X.cell? ⟨wc.heap.size, 11, none⟩ = some (.int .i64 (t.b 3)) := tD.cb 3 (by decide); have td : X.cell? ⟨wc.heap.size, 12, none⟩ = some (.int .i64 t.d) := tD.cd; have tz := tD.lt
            clear tD
            generalize wc.heap.size = ub at *
            by_cases hgk : gk = 0
            · have hle : ck ≤ a1 := HLs.out rfl hgk
              subst hgk
              go_wp2_with (first
                | (go_at_call 6; refine Calls.mono (HUk.out _ HX.out.up) ?_; rintro e w6 ⟨rfl, hb⟩; have HX6 : Hid (Mb w w6 t o) := HX.out.next hb; clear hb HUk HX; clear tu0 tu1 tu2 tu3 tl0 tl1 tl2 tl3 tb0 tb1 tb2 tb3 td tz)
                | (go_at_call 12; refine Calls.mono (HW.out _ HX6.out.up) ?_; rintro e w7 ⟨rfl, hb⟩; have HX7 : Hid (Mb w w7 t o) := HX6.out.next hb; clear hb HW HX6))
              go_ret
              exact ⟨rfl, HX7.out.up⟩
            · have hgk' : (gk != 0) = true := by simpa using hgk
              clear hgk
              go_wp2_with (first
                | (go_at_call 6; refine Calls.mono (HUk.out _ HX.out.up) ?_; rintro e w6 ⟨rfl, hb⟩; have HX6 : Hid (Mb w w6 t o) := HX.out.next hb; clear hb HUk HX; clear tu0 tu1 tu2 tu3 tl0 tl1 tl2 tl3 tb0 tb1 tb2 tb3 td tz)
                | (go_at_call 12; refine Calls.mono (HW.out _ HX6.out.up) ?_; rintro e w7 ⟨rfl, hb⟩; have HX7 : Hid (Mb w w7 t o) := HX6.out.next hb; clear hb HW HX6))
              go_ret
              exact ⟨rfl, HX7.out.up⟩
          · have HUk : Hid (∀ W, Below w.heap.size w W → Calls Tryd.prog 6 #[.slice ao xs.length cap, .agg #[.int .i64 (t.u 0), .int .i64 (t.u 1), .int .i64 (t.u 2), .int .i64 (t.u 3), .int .i64 (t.l 0), .int .i64 (t.l 1), .int .i64 (t.l 2), .int .i64 (t.l 3), .int .i64 (t.b 0), .int .i64 (t.b 1), .int .i64 (t.b 2), .int .i64 (t.b 3), .int .i64 t.d]] W fun e w' => e = .returned (.tuple #[.int .i64 a1, .int .i64 0]) ∧ Below W.heap.size W w') := HU1b.out
            go_upto_region 11 with fail
            generalize (wc.alloc (.cells #[.int .i64 (t.u 0), .int .i64 (t.u 1), .int .i64 (t.u 2), .int .i64 (t.u 3), .int .i64 (t.l 0), .int .i64 (t.l 1), .int .i64 (t.l 2), .int .i64 (t.l 3), .int .i64 (t.b 0), .int .i64 (t.b 1), .int .i64 (t.b 2), .int .i64 (t.b 3), .int .i64 t.d] 25)) = X at *
            clear tu0 tu1 tu2 tu3 tl0 tl1 tl2 tl3 tb0 tb1 tb2 tb3 td tz
            have HX : Hid (Mb w X t o) := HC.out.next HD0.out.2
            have tD : TabAt X wc.heap.size t := HD0.out.1
            have tu0 := tD.cu 0 (by decide); have tu1 := tD.cu 1 (by decide); have tu2 := tD.cu 2 (by decide); have tu3 := tD.cu 3 (by decide); have tl0 := tD.cl 0 (by decide); have tl1 := tD.cl 1 (by decide); have tl2 := tD.cl 2 (by decide); have tl3 := tD.cl 3 (by decide); have tb0 := tD.cb 0 (by decide); have tb1 := tD.cb 1 (by decide); have tb2 := tD.cb 2 (by decide); have tb3 := tD.cb 3 (by decide); have td := tD.cd; have tz := tD.lt
            clear tD
            generalize wc.heap.size = ub at *
            have hle : a1 ≤ a1 := Int.le_refl _
            go_wp2_with (first
              | (go_at_call 6; refine Calls.mono (HUk.out _ HX.out.up) ?_; rintro e w6 ⟨rfl, hb⟩; have HX6 : Hid (Mb w w6 t o) := HX.out.next hb; clear hb HUk HX; clear tu0 tu1 tu2 tu3 tl0 tl1 tl2 tl3 tb0 tb1 tb2 tb3 td tz)
              | (go_at_call 12; refine Calls.mono (HW.out _ HX6.out.up) ?_; rintro e w7 ⟨rfl, hb⟩; have HX7 : Hid (Mb w w7 t o) := HX6.out.next hb; clear hb HW HX6))
            go_ret
            exact ⟨rfl, HX7.out.up⟩
        · have HUk : Hid (∀ W, Below w.heap.size w W → Calls Tryd.prog 6 #[.slice ao xs.length cap, .agg #[.int .i64 (t.u 0), .int .i64 (t.u 1), .int .i64 (t.u 2 + 1), .int .i64 (t.u 3), .int .i64 (t.l 0), .int .i64 (t.l 1), .int .i64 (t.l 2), .int .i64 (t.l 3), .int .i64 (t.b 0), .int .i64 (t.b 1), .int .i64 (t.b 2), .int .i64 (t.b 3), .int .i64 t.d]] W fun e w' => e = .returned (.tuple #[.int .i64 (unE (tup t 2) ys), .int .i64 (rgE (tup t 2) ys)]) ∧ Below W.heap.size W w') := fun W hb => HUt.out (tup t 2) W hb
          have HLs : Hid (_) := HM2.out 2
          have hub := HUb.out 2 (by omega)
          obtain ⟨ck, hck⟩ : ∃ ck, unE (tup t 2) ys = ck := ⟨_, rfl⟩
          obtain ⟨gk, hgk⟩ : ∃ gk, rgE (tup t 2) ys = gk := ⟨_, rfl⟩
          rw [hck, hgk] at HUk HLs
          clear hck hgk
          have HD0 : Hid (TabAt (wc.alloc (.cells #[.int .i64 (t.u 0), .int .i64 (t.u 1), .int .i64 (t.u 2), .int .i64 (t.u 3), .int .i64 (t.l 0), .int .i64 (t.l 1), .int .i64 (t.l 2), .int .i64 (t.l 3), .int .i64 (t.b 0), .int .i64 (t.b 1), .int .i64 (t.b 2), .int .i64 (t.b 3), .int .i64 t.d] 25)) wc.heap.size t ∧ Below wc.heap.size wc (wc.alloc (.cells #[.int .i64 (t.u 0), .int .i64 (t.u 1), .int .i64 (t.u 2), .int .i64 (t.u 3), .int .i64 (t.l 0), .int .i64 (t.l 1), .int .i64 (t.l 2), .int .i64 (t.l 3), .int .i64 (t.b 0), .int .i64 (t.b 1), .int .i64 (t.b 2), .int .i64 (t.b 3), .int .i64 t.d] 25))) := ⟨Tb.tabAt_new wc t 25, (Below.refl _ _).alloc (Nat.le_refl _) _⟩
          have HD1 : Hid (TabAt (wc.alloc (.cells #[.int .i64 (t.u 0), .int .i64 (t.u 1), .int .i64 (t.u 2 + 1), .int .i64 (t.u 3), .int .i64 (t.l 0), .int .i64 (t.l 1), .int .i64 (t.l 2), .int .i64 (t.l 3), .int .i64 (t.b 0), .int .i64 (t.b 1), .int .i64 (t.b 2), .int .i64 (t.b 3), .int .i64 t.d] 25)) wc.heap.size (tup t 2) ∧ Below wc.heap.size wc (wc.alloc (.cells #[.int .i64 (t.u 0), .int .i64 (t.u 1), .int .i64 (t.u 2 + 1), .int .i64 (t.u 3), .int .i64 (t.l 0), .int .i64 (t.l 1), .int .i64 (t.l 2), .int .i64 (t.l 3), .int .i64 (t.b 0), .int .i64 (t.b 1), .int .i64 (t.b 2), .int .i64 (t.b 3), .int .i64 t.d] 25))) := ⟨Tb.tabAt_new wc (tup t 2) 25, (Below.refl _ _).alloc (Nat.le_refl _) _⟩
          by_cases hu8 : t.u 2 < 8
          · go_upto_region 11 with fail
            generalize (wc.alloc (.cells #[.int .i64 (t.u 0), .int .i64 (t.u 1), .int .i64 (t.u 2 + 1), .int .i64 (t.u 3), .int .i64 (t.l 0), .int .i64 (t.l 1), .int .i64 (t.l 2), .int .i64 (t.l 3), .int .i64 (t.b 0), .int .i64 (t.b 1), .int .i64 (t.b 2), .int .i64 (t.b 3), .int .i64 t.d] 25)) = X at *
            clear tu0 tu1 tu2 tu3 tl0 tl1 tl2 tl3 tb0 tb1 tb2 tb3 td tz
            have HX : Hid (Mb w X t o) := HC.out.next HD1.out.2
            have tD : TabAt X wc.heap.size (tup t 2) := HD1.out.1
            have tu0 : X.cell? ⟨wc.heap.size, 0, none⟩ = some (.int .i64 (t.u 0)) := tD.cu 0 (by decide); have tu1 : X.cell? ⟨wc.heap.size, 1, none⟩ = some (.int .i64 (t.u 1)) := tD.cu 1 (by decide); have tu2 : X.cell? ⟨wc.heap.size, 2, none⟩ = some (.int .i64 (t.u 2 + 1)) := tD.cu 2 (by decide); have tu3 : X.cell? ⟨wc.heap.size, 3, none⟩ = some (.int .i64 (t.u 3)) := tD.cu 3 (by decide); have tl0 : X.cell? ⟨wc.heap.size, 4, none⟩ = some (.int .i64 (t.l 0)) := tD.cl 0 (by decide); have tl1 : X.cell? ⟨wc.heap.size, 5, none⟩ = some (.int .i64 (t.l 1)) := tD.cl 1 (by decide); have tl2 : X.cell? ⟨wc.heap.size, 6, none⟩ = some (.int .i64 (t.l 2)) := tD.cl 2 (by decide); have tl3 : X.cell? ⟨wc.heap.size, 7, none⟩ = some (.int .i64 (t.l 3)) := tD.cl 3 (by decide); have tb0 : X.cell? ⟨wc.heap.size, 8, none⟩ = some (.int .i64 (t.b 0)) := tD.cb 0 (by decide); have tb1 : X.cell? ⟨wc.heap.size, 9, none⟩ = some (.int .i64 (t.b 1)) := tD.cb 1 (by decide); have tb2 : X.cell? ⟨wc.heap.size, 10, none⟩ = some (.int .i64 (t.b 2)) := tD.cb 2 (by decide); have tb3 : X.cell? ⟨wc.heap.size, 11, none⟩ = some (.int .i64 (t.b 3)) := tD.cb 3 (by decide); have td : X.cell? ⟨wc.heap.size, 12, none⟩ = some (.int .i64 t.d) := tD.cd; have tz := tD.lt
            clear tD
            generalize wc.heap.size = ub at *
            by_cases hgk : gk = 0
            · have hle : ck ≤ a1 := HLs.out rfl hgk
              subst hgk
              go_wp2_with (first
                | (go_at_call 6; refine Calls.mono (HUk.out _ HX.out.up) ?_; rintro e w6 ⟨rfl, hb⟩; have HX6 : Hid (Mb w w6 t o) := HX.out.next hb; clear hb HUk HX; clear tu0 tu1 tu2 tu3 tl0 tl1 tl2 tl3 tb0 tb1 tb2 tb3 td tz)
                | (go_at_call 12; refine Calls.mono (HW.out _ HX6.out.up) ?_; rintro e w7 ⟨rfl, hb⟩; have HX7 : Hid (Mb w w7 t o) := HX6.out.next hb; clear hb HW HX6))
              go_ret
              exact ⟨rfl, HX7.out.up⟩
            · have hgk' : (gk != 0) = true := by simpa using hgk
              clear hgk
              go_wp2_with (first
                | (go_at_call 6; refine Calls.mono (HUk.out _ HX.out.up) ?_; rintro e w6 ⟨rfl, hb⟩; have HX6 : Hid (Mb w w6 t o) := HX.out.next hb; clear hb HUk HX; clear tu0 tu1 tu2 tu3 tl0 tl1 tl2 tl3 tb0 tb1 tb2 tb3 td tz)
                | (go_at_call 12; refine Calls.mono (HW.out _ HX6.out.up) ?_; rintro e w7 ⟨rfl, hb⟩; have HX7 : Hid (Mb w w7 t o) := HX6.out.next hb; clear hb HW HX6))
              go_ret
              exact ⟨rfl, HX7.out.up⟩
          · have HUk : Hid (∀ W, Below w.heap.size w W → Calls Tryd.prog 6 #[.slice ao xs.length cap, .agg #[.int .i64 (t.u 0), .int .i64 (t.u 1), .int .i64 (t.u 2), .int .i64 (t.u 3), .int .i64 (t.l 0), .int .i64 (t.l 1), .int .i64 (t.l 2), .int .i64 (t.l 3), .int .i64 (t.b 0), .int .i64 (t.b 1), .int .i64 (t.b 2), .int .i64 (t.b 3), .int .i64 t.d]] W fun e w' => e = .returned (.tuple #[.int .i64 a1, .int .i64 0]) ∧ Below W.heap.size W w') := HU1b.out
            go_upto_region 11 with fail
            generalize (wc.alloc (.cells #[.int .i64 (t.u 0), .int .i64 (t.u 1), .int .i64 (t.u 2), .int .i64 (t.u 3), .int .i64 (t.l 0), .int .i64 (t.l 1), .int .i64 (t.l 2), .int .i64 (t.l 3), .int .i64 (t.b 0), .int .i64 (t.b 1), .int .i64 (t.b 2), .int .i64 (t.b 3), .int .i64 t.d] 25)) = X at *
            clear tu0 tu1 tu2 tu3 tl0 tl1 tl2 tl3 tb0 tb1 tb2 tb3 td tz
            have HX : Hid (Mb w X t o) := HC.out.next HD0.out.2
            have tD : TabAt X wc.heap.size t := HD0.out.1
            have tu0 := tD.cu 0 (by decide); have tu1 := tD.cu 1 (by decide); have tu2 := tD.cu 2 (by decide); have tu3 := tD.cu 3 (by decide); have tl0 := tD.cl 0 (by decide); have tl1 := tD.cl 1 (by decide); have tl2 := tD.cl 2 (by decide); have tl3 := tD.cl 3 (by decide); have tb0 := tD.cb 0 (by decide); have tb1 := tD.cb 1 (by decide); have tb2 := tD.cb 2 (by decide); have tb3 := tD.cb 3 (by decide); have td := tD.cd; have tz := tD.lt
            clear tD
            generalize wc.heap.size = ub at *
            have hle : a1 ≤ a1 := Int.le_refl _
            go_wp2_with (first
              | (go_at_call 6; refine Calls.mono (HUk.out _ HX.out.up) ?_; rintro e w6 ⟨rfl, hb⟩; have HX6 : Hid (Mb w w6 t o) := HX.out.next hb; clear hb HUk HX; clear tu0 tu1 tu2 tu3 tl0 tl1 tl2 tl3 tb0 tb1 tb2 tb3 td tz)
              | (go_at_call 12; refine Calls.mono (HW.out _ HX6.out.up) ?_; rintro e w7 ⟨rfl, hb⟩; have HX7 : Hid (Mb w w7 t o) := HX6.out.next hb; clear hb HW HX6))
            go_ret
            exact ⟨rfl, HX7.out.up⟩
        · have HUk : Hid (∀ W, Below w.heap.size w W → Calls Tryd.prog 6 #[.slice ao xs.length cap, .agg #[.int .i64 (t.u 0), .int .i64 (t.u 1), .int .i64 (t.u 2), .int .i64 (t.u 3 + 1), .int .i64 (t.l 0), .int .i64 (t.l 1), .int .i64 (t.l 2), .int .i64 (t.l 3), .int .i64 (t.b 0), .int .i64 (t.b 1), .int .i64 (t.b 2), .int .i64 (t.b 3), .int .i64 t.d]] W fun e w' => e = .returned (.tuple #[.int .i64 (unE (tup t 3) ys), .int .i64 (rgE (tup t 3) ys)]) ∧ Below W.heap.size W w') := fun W hb => HUt.out (tup t 3) W hb
          have HLs : Hid (_) := HM2.out 3
          have hub := HUb.out 3 (by omega)
          obtain ⟨ck, hck⟩ : ∃ ck, unE (tup t 3) ys = ck := ⟨_, rfl⟩
          obtain ⟨gk, hgk⟩ : ∃ gk, rgE (tup t 3) ys = gk := ⟨_, rfl⟩
          rw [hck, hgk] at HUk HLs
          clear hck hgk
          have HD0 : Hid (TabAt (wc.alloc (.cells #[.int .i64 (t.u 0), .int .i64 (t.u 1), .int .i64 (t.u 2), .int .i64 (t.u 3), .int .i64 (t.l 0), .int .i64 (t.l 1), .int .i64 (t.l 2), .int .i64 (t.l 3), .int .i64 (t.b 0), .int .i64 (t.b 1), .int .i64 (t.b 2), .int .i64 (t.b 3), .int .i64 t.d] 25)) wc.heap.size t ∧ Below wc.heap.size wc (wc.alloc (.cells #[.int .i64 (t.u 0), .int .i64 (t.u 1), .int .i64 (t.u 2), .int .i64 (t.u 3), .int .i64 (t.l 0), .int .i64 (t.l 1), .int .i64 (t.l 2), .int .i64 (t.l 3), .int .i64 (t.b 0), .int .i64 (t.b 1), .int .i64 (t.b 2), .int .i64 (t.b 3), .int .i64 t.d] 25))) := ⟨Tb.tabAt_new wc t 25, (Below.refl _ _).alloc (Nat.le_refl _) _⟩
          have HD1 : Hid (TabAt (wc.alloc (.cells #[.int .i64 (t.u 0), .int .i64 (t.u 1), .int .i64 (t.u 2), .int .i64 (t.u 3 + 1), .int .i64 (t.l 0), .int .i64 (t.l 1), .int .i64 (t.l 2), .int .i64 (t.l 3), .int .i64 (t.b 0), .int .i64 (t.b 1), .int .i64 (t.b 2), .int .i64 (t.b 3), .int .i64 t.d] 25)) wc.heap.size (tup t 3) ∧ Below wc.heap.size wc (wc.alloc (.cells #[.int .i64 (t.u 0), .int .i64 (t.u 1), .int .i64 (t.u 2), .int .i64 (t.u 3 + 1), .int .i64 (t.l 0), .int .i64 (t.l 1), .int .i64 (t.l 2), .int .i64 (t.l 3), .int .i64 (t.b 0), .int .i64 (t.b 1), .int .i64 (t.b 2), .int .i64 (t.b 3), .int .i64 t.d] 25))) := ⟨Tb.tabAt_new wc (tup t 3) 25, (Below.refl _ _).alloc (Nat.le_refl _) _⟩
          by_cases hu8 : t.u 3 < 8
          · go_upto_region 11 with fail
            generalize (wc.alloc (.cells #[.int .i64 (t.u 0), .int .i64 (t.u 1), .int .i64 (t.u 2), .int .i64 (t.u 3 + 1), .int .i64 (t.l 0), .int .i64 (t.l 1), .int .i64 (t.l 2), .int .i64 (t.l 3), .int .i64 (t.b 0), .int .i64 (t.b 1), .int .i64 (t.b 2), .int .i64 (t.b 3), .int .i64 t.d] 25)) = X at *
            clear tu0 tu1 tu2 tu3 tl0 tl1 tl2 tl3 tb0 tb1 tb2 tb3 td tz
            have HX : Hid (Mb w X t o) := HC.out.next HD1.out.2
            have tD : TabAt X wc.heap.size (tup t 3) := HD1.out.1
            have tu0 : X.cell? ⟨wc.heap.size, 0, none⟩ = some (.int .i64 (t.u 0)) := tD.cu 0 (by decide); have tu1 : X.cell? ⟨wc.heap.size, 1, none⟩ = some (.int .i64 (t.u 1)) := tD.cu 1 (by decide); have tu2 : X.cell? ⟨wc.heap.size, 2, none⟩ = some (.int .i64 (t.u 2)) := tD.cu 2 (by decide); have tu3 : X.cell? ⟨wc.heap.size, 3, none⟩ = some (.int .i64 (t.u 3 + 1)) := tD.cu 3 (by decide); have tl0 : X.cell? ⟨wc.heap.size, 4, none⟩ = some (.int .i64 (t.l 0)) := tD.cl 0 (by decide); have tl1 : X.cell? ⟨wc.heap.size, 5, none⟩ = some (.int .i64 (t.l 1)) := tD.cl 1 (by decide); have tl2 : X.cell? ⟨wc.heap.size, 6, none⟩ = some (.int .i64 (t.l 2)) := tD.cl 2 (by decide); have tl3 : X.cell? ⟨wc.heap.size, 7, none⟩ = some (.int .i64 (t.l 3)) := tD.cl 3 (by decide); have tb0 : X.cell? ⟨wc.heap.size, 8, none⟩ = some (.int .i64 (t.b 0)) := tD.cb 0 (by decide); have tb1 : X.cell? ⟨wc.heap.size, 9, none⟩ = some (.int .i64 (t.b 1)) := tD.cb 1 (by decide); have tb2 : X.cell? ⟨wc.heap.size, 10, none⟩ = some (.int .i64 (t.b 2)) := tD.cb 2 (by decide); have tb3 : X.cell? ⟨wc.heap.size, 11, none⟩ = some (.int .i64 (t.b 3)) := tD.cb 3 (by decide); have td : X.cell? ⟨wc.heap.size, 12, none⟩ = some (.int .i64 t.d) := tD.cd; have tz := tD.lt
            clear tD
            generalize wc.heap.size = ub at *
            by_cases hgk : gk = 0
            · have hle : ck ≤ a1 := HLs.out rfl hgk
              subst hgk
              go_wp2_with (first
                | (go_at_call 6; refine Calls.mono (HUk.out _ HX.out.up) ?_; rintro e w6 ⟨rfl, hb⟩; have HX6 : Hid (Mb w w6 t o) := HX.out.next hb; clear hb HUk HX; clear tu0 tu1 tu2 tu3 tl0 tl1 tl2 tl3 tb0 tb1 tb2 tb3 td tz)
                | (go_at_call 12; refine Calls.mono (HW.out _ HX6.out.up) ?_; rintro e w7 ⟨rfl, hb⟩; have HX7 : Hid (Mb w w7 t o) := HX6.out.next hb; clear hb HW HX6))
              go_ret
              exact ⟨rfl, HX7.out.up⟩
            · have hgk' : (gk != 0) = true := by simpa using hgk
              clear hgk
              go_wp2_with (first
                | (go_at_call 6; refine Calls.mono (HUk.out _ HX.out.up) ?_; rintro e w6 ⟨rfl, hb⟩; have HX6 : Hid (Mb w w6 t o) := HX.out.next hb; clear hb HUk HX; clear tu0 tu1 tu2 tu3 tl0 tl1 tl2 tl3 tb0 tb1 tb2 tb3 td tz)
                | (go_at_call 12; refine Calls.mono (HW.out _ HX6.out.up) ?_; rintro e w7 ⟨rfl, hb⟩; have HX7 : Hid (Mb w w7 t o) := HX6.out.next hb; clear hb HW HX6))
              go_ret
              exact ⟨rfl, HX7.out.up⟩
          · have HUk : Hid (∀ W, Below w.heap.size w W → Calls Tryd.prog 6 #[.slice ao xs.length cap, .agg #[.int .i64 (t.u 0), .int .i64 (t.u 1), .int .i64 (t.u 2), .int .i64 (t.u 3), .int .i64 (t.l 0), .int .i64 (t.l 1), .int .i64 (t.l 2), .int .i64 (t.l 3), .int .i64 (t.b 0), .int .i64 (t.b 1), .int .i64 (t.b 2), .int .i64 (t.b 3), .int .i64 t.d]] W fun e w' => e = .returned (.tuple #[.int .i64 a1, .int .i64 0]) ∧ Below W.heap.size W w') := HU1b.out
            go_upto_region 11 with fail
            generalize (wc.alloc (.cells #[.int .i64 (t.u 0), .int .i64 (t.u 1), .int .i64 (t.u 2), .int .i64 (t.u 3), .int .i64 (t.l 0), .int .i64 (t.l 1), .int .i64 (t.l 2), .int .i64 (t.l 3), .int .i64 (t.b 0), .int .i64 (t.b 1), .int .i64 (t.b 2), .int .i64 (t.b 3), .int .i64 t.d] 25)) = X at *
            clear tu0 tu1 tu2 tu3 tl0 tl1 tl2 tl3 tb0 tb1 tb2 tb3 td tz
            have HX : Hid (Mb w X t o) := HC.out.next HD0.out.2
            have tD : TabAt X wc.heap.size t := HD0.out.1
            have tu0 := tD.cu 0 (by decide); have tu1 := tD.cu 1 (by decide); have tu2 := tD.cu 2 (by decide); have tu3 := tD.cu 3 (by decide); have tl0 := tD.cl 0 (by decide); have tl1 := tD.cl 1 (by decide); have tl2 := tD.cl 2 (by decide); have tl3 := tD.cl 3 (by decide); have tb0 := tD.cb 0 (by decide); have tb1 := tD.cb 1 (by decide); have tb2 := tD.cb 2 (by decide); have tb3 := tD.cb 3 (by decide); have td := tD.cd; have tz := tD.lt
            clear tD
            generalize wc.heap.size = ub at *
            have hle : a1 ≤ a1 := Int.le_refl _
            go_wp2_with (first
              | (go_at_call 6; refine Calls.mono (HUk.out _ HX.out.up) ?_; rintro e w6 ⟨rfl, hb⟩; have HX6 : Hid (Mb w w6 t o) := HX.out.next hb; clear hb HUk HX; clear tu0 tu1 tu2 tu3 tl0 tl1 tl2 tl3 tb0 tb1 tb2 tb3 td tz)
              | (go_at_call 12; refine Calls.mono (HW.out _ HX6.out.up) ?_; rintro e w7 ⟨rfl, hb⟩; have HX7 : Hid (Mb w w7 t o) := HX6.out.next hb; clear hb HW HX6))
            go_ret
            exact ⟨rfl, HX7.out.up⟩
      · have hf' : (f2 == 0) = false := by simpa using hf
        clear HM1 hf
        have tC := HC.out.t
        have tu0 := tC.cu 0 (by decide); have tu1 := tC.cu 1 (by decide); have tu2 := tC.cu 2 (by decide); have tu3 := tC.cu 3 (by decide); have tl0 := tC.cl 0 (by decide); have tl1 := tC.cl 1 (by decide); have tl2 := tC.cl 2 (by decide); have tl3 := tC.cl 3 (by decide); have tb0 := tC.cb 0 (by decide); have tb1 := tC.cb 1 (by decide); have tb2 := tC.cb 2 (by decide); have tb3 := tC.cb 3 (by decide); have td := tC.cd; have tz := tC.lt
        clear tC
        go_upto_region 8 with fail
        rw [HC4.out]
        have hcs : c4 = 0 ∨ c4 = 1 ∨ c4 = 2 ∨ c4 = 3 := by omega
        rcases hcs with rfl | rfl | rfl | rfl
        · have HUk : Hid (∀ W, Below w.heap.size w W → Calls Tryd.prog 6 #[.slice ao xs.length cap, .agg #[.int .i64 (t.u 0 + 1), .int .i64 (t.u 1), .int .i64 (t.u 2), .int .i64 (t.u 3), .int .i64 (t.l 0), .int .i64 (t.l 1), .int .i64 (t.l 2), .int .i64 (t.l 3), .int .i64 (t.b 0), .int .i64 (t.b 1), .int .i64 (t.b 2), .int .i64 (t.b 3), .int .i64 t.d]] W fun e w' => e = .returned (.tuple #[.int .i64 (unE (tup t 0) ys), .int .i64 (rgE (tup t 0) ys)]) ∧ Below W.heap.size W w') := fun W hb => HUt.out (tup t 0) W hb
          have HLs : Hid (_) := HM2.out 0
          have hub := HUb.out 0 (by omega)
          obtain ⟨ck, hck⟩ : ∃ ck, unE (tup t 0) ys = ck := ⟨_, rfl⟩
          obtain ⟨gk, hgk⟩ : ∃ gk, rgE (tup t 0) ys = gk := ⟨_, rfl⟩
          rw [hck, hgk] at HUk HLs
          clear hck hgk
          have HD0 : Hid (TabAt (wc.alloc (.cells #[.int .i64 (t.u 0), .int .i64 (t.u 1), .int .i64 (t.u 2), .int .i64 (t.u 3), .int .i64 (t.l 0), .int .i64 (t.l 1), .int .i64 (t.l 2), .int .i64 (t.l 3), .int .i64 (t.b 0), .int .i64 (t.b 1), .int .i64 (t.b 2), .int .i64 (t.b 3), .int .i64 t.d] 25)) wc.heap.size t ∧ Below wc.heap.size wc (wc.alloc (.cells #[.int .i64 (t.u 0), .int .i64 (t.u 1), .int .i64 (t.u 2), .int .i64 (t.u 3), .int .i64 (t.l 0), .int .i64 (t.l 1), .int .i64 (t.l 2), .int .i64 (t.l 3), .int .i64 (t.b 0), .int .i64 (t.b 1), .int .i64 (t.b 2), .int .i64 (t.b 3), .int .i64 t.d] 25))) := ⟨Tb.tabAt_new wc t 25, (Below.refl _ _).alloc (Nat.le_refl _) _⟩
          have HD1 : Hid (TabAt (wc.alloc (.cells #[.int .i64 (t.u 0 + 1), .int .i64 (t.u 1), .int .i64 (t.u 2), .int .i64 (t.u 3), .int .i64 (t.l 0), .int .i64 (t.l 1), .int .i64 (t.l 2), .int .i64 (t.l 3), .int .i64 (t.b 0), .int .i64 (t.b 1), .int .i64 (t.b 2), .int .i64 (t.b 3), .int .i64 t.d] 25)) wc.heap.size (tup t 0) ∧ Below wc.heap.size wc (wc.alloc (.cells #[.int .i64 (t.u 0 + 1), .int .i64 (t.u 1), .int .i64 (t.u 2), .int .i64 (t.u 3), .int .i64 (t.l 0), .int .i64 (t.l 1), .int .i64 (t.l 2), .int .i64 (t.l 3), .int .i64 (t.b 0), .int .i64 (t.b 1), .int .i64 (t.b 2), .int .i64 (t.b 3), .int .i64 t.d] 25))) := ⟨Tb.tabAt_new wc (tup t 0) 25, (Below.refl _ _).alloc (Nat.le_refl _) _⟩
          by_cases hu8 : t.u 0 < 8
          · go_upto_region 11 with fail
            generalize (wc.alloc (.cells #[.int .i64 (t.u 0 + 1), .int .i64 (t.u 1), .int .i64 (t.u 2), .int .i64 (t.u 3), .int .i64 (t.l 0), .int .i64 (t.l 1), .int .i64 (t.l 2), .int .i64 (t.l 3), .int .i64 (t.b 0), .int .i64 (t.b 1), .int .i64 (t.b 2), .int .i64 (t.b 3), .int .i64 t.d] 25)) = X at *
            clear tu0 tu1 tu2 tu3 tl0 tl1 tl2 tl3 tb0 tb1 tb2 tb3 td tz
            have HX : Hid (Mb w X t o) := HC.out.next HD1.out.2
            have tD : TabAt X wc.heap.size (tup t 0) := HD1.out.1
            have tu0 : X.cell? ⟨wc.heap.size, 0, none⟩ = some (.int .i64 (t.u 0 + 1)) := tD.cu 0 (by decide); have tu1 : X.cell? ⟨wc.heap.size, 1, none⟩ = some (.int .i64 (t.u 1)) := tD.cu 1 (by decide); have tu2 : X.cell? ⟨wc.heap.size, 2, none⟩ = some (.int .i64 (t.u 2)) := tD.cu 2 (by decide); have tu3 : X.cell? ⟨wc.heap.size, 3, none⟩ = some (.int .i64 (t.u 3)) := tD.cu 3 (by decide); have tl0 : X.cell? ⟨wc.heap.size, 4, none⟩ = some (.int .i64 (t.l 0)) := tD.cl 0 (by decide); have tl1 : X.cell? ⟨wc.heap.size, 5, none⟩ = some (.int .i64 (t.l 1)) := tD.cl 1 (by decide); have tl2 : X.cell? ⟨wc.heap.size, 6, none⟩ = some (.int .i64 (t.l 2)) := tD.cl 2 (by decide); have tl3 : X.cell? ⟨wc.heap.size, 7, none⟩ = some (.int .i64 (t.l 3)) := tD.cl 3 (by decide); have tb0 : X.cell? ⟨wc.heap.size, 8, none⟩ = some (.int .i64 (t.b 0)) := tD.cb 0 (by decide); have tb1 : X.cell? ⟨wc.heap.size, 9, none⟩ = some (.int .i64 (t.b 1)) := tD.cb 1 (by decide); have tb2 : X.cell? ⟨wc.heap.size, 10, none⟩ = some (.int .i64 (t.b 2)) := tD.cb 2 (by decide); have tb3 : X.cell? ⟨wc.heap.size, 11, none⟩ = some (.int .i64 (t.b 3)) := tD.cb 3 (by decide); have td : X.cell? ⟨wc.heap.size, 12, none⟩ = some (.int .i64 t.d) := tD.cd; have tz := tD.lt
            clear tD
            generalize wc.heap.size = ub at *
            by_cases hgk : gk = 0
            · have hle : ck ≤ a1 := HLs.out rfl hgk
              subst hgk
              go_wp2_with (first
                | (go_at_call 6; refine Calls.mono (HUk.out _ HX.out.up) ?_; rintro e w6 ⟨rfl, hb⟩; have HX6 : Hid (Mb w w6 t o) := HX.out.next hb; clear hb HUk HX; clear tu0 tu1 tu2 tu3 tl0 tl1 tl2 tl3 tb0 tb1 tb2 tb3 td tz)
                | (go_at_call 12; refine Calls.mono (HW.out _ HX6.out.up) ?_; rintro e w7 ⟨rfl, hb⟩; have HX7 : Hid (Mb w w7 t o) := HX6.out.next hb; clear hb HW HX6))
              go_ret
              exact ⟨rfl, HX7.out.up⟩
            · have hgk' : (gk != 0) = true := by simpa using hgk
              clear hgk
              go_wp2_with (first
                | (go_at_call 6; refine Calls.mono (HUk.out _ HX.out.up) ?_; rintro e w6 ⟨rfl, hb⟩; have HX6 : Hid (Mb w w6 t o) := HX.out.next hb; clear hb HUk HX; clear tu0 tu1 tu2 tu3 tl0 tl1 tl2 tl3 tb0 tb1 tb2 tb3 td tz)
                | (go_at_call 12; refine Calls.mono (HW.out _ HX6.out.up) ?_; rintro e w7 ⟨rfl, hb⟩; have HX7 : Hid (Mb w w7 t o) := HX6.out.next hb; clear hb HW HX6))
              go_ret
              exact ⟨rfl, HX7.out.up⟩
          · have HUk : Hid (∀ W, Below w.heap.size w W → Calls Tryd.prog 6 #[.slice ao xs.length cap, .agg #[.int .i64 (t.u 0), .int .i64 (t.u 1), .int .i64 (t.u 2), .int .i64 (t.u 3), .int .i64 (t.l 0), .int .i64 (t.l 1), .int .i64 (t.l 2), .int .i64 (t.l 3), .int .i64 (t.b 0), .int .i64 (t.b 1), .int .i64 (t.b 2), .int .i64 (t.b 3), .int .i64 t.d]] W fun e w' => e = .returned (.tuple #[.int .i64 a1, .int .i64 0]) ∧ Below W.heap.size W w') := HU1b.out
            go_upto_region 11 with fail
            generalize (wc.alloc (.cells #[.int .i64 (t.u 0), .int .i64 (t.u 1), .int .i64 (t.u 2), .int .i64 (t.u 3), .int .i64 (t.l 0), .int .i64 (t.l 1), .int .i64 (t.l 2), .int .i64 (t.l 3), .int .i64 (t.b 0), .int .i64 (t.b 1), .int .i64 (t.b 2), .int .i64 (t.b 3), .int .i64 t.d] 25)) = X at *
            clear tu0 tu1 tu2 tu3 tl0 tl1 tl2 tl3 tb0 tb1 tb2 tb3 td tz
            have HX : Hid (Mb w X t o) := HC.out.next HD0.out.2
            have tD : TabAt X wc.heap.size t := HD0.out.1
            have tu0 := tD.cu 0 (by decide); have tu1 := tD.cu 1 (by decide); have tu2 := tD.cu 2 (by decide); have tu3 := tD.cu 3 (by decide); have tl0 := tD.cl 0 (by decide); have tl1 := tD.cl 1 (by decide); have tl2 := tD.cl 2 (by decide); have tl3 := tD.cl 3 (by decide); have tb0 := tD.cb 0 (by decide); have tb1 := tD.cb 1 (by decide); have tb2 := tD.cb 2 (by decide); have tb3 := tD.cb 3 (by decide); have td := tD.cd; have tz := tD.lt
            clear tD
            generalize wc.heap.size = ub at *
            have hle : a1 ≤ a1 := Int.le_refl _
            go_wp2_with (first
              | (go_at_call 6; refine Calls.mono (HUk.out _ HX.out.up) ?_; rintro e w6 ⟨rfl, hb⟩; have HX6 : Hid (Mb w w6 t o) := HX.out.next hb; clear hb HUk HX; clear tu0 tu1 tu2 tu3 tl0 tl1 tl2 tl3 tb0 tb1 tb2 tb3 td tz)
              | (go_at_call 12; refine Calls.mono (HW.out _ HX6.out.up) ?_; rintro e w7 ⟨rfl, hb⟩; have HX7 : Hid (Mb w w7 t o) := HX6.out.next hb; clear hb HW HX6))
            go_ret
            exact ⟨rfl, HX7.out.up⟩
        · have HUk : Hid (∀ W, Below w.heap.size w W → Calls Tryd.prog 6 #[.slice ao xs.length cap, .agg #[.int .i64 (t.u 0), .int .i64 (t.u 1 + 1), .int .i64 (t.u 2), .int .i64 (t.u 3), .int .i64 (t.l 0), .int .i64 (t.l 1), .int .i64 (t.l 2), .int .i64 (t.l 3), .int .i64 (t.b 0), .int .i64 (t.b 1), .int .i64 (t.b 2), .int .i64 (t.b 3), .int .i64 t.d]] W fun e w' => e = .returned (.tuple #[.int .i64 (unE (tup t 1) ys), .int .i64 (rgE (tup t 1) ys)]) ∧ Below W.heap.size W w') := fun W hb => HUt.out (tup t 1) W hb
          have HLs : Hid (_) := HM2.out 1
          have hub := HUb.out 1 (by omega)
          obtain ⟨ck, hck⟩ : ∃ ck, unE (tup t 1) ys = ck := ⟨_, rfl⟩
          obtain ⟨gk, hgk⟩ : ∃ gk, rgE (tup t 1) ys = gk := ⟨_, rfl⟩
          rw [hck, hgk] at HUk HLs
          clear hck hgk
          have HD0 : Hid (TabAt (wc.alloc (.cells #[.int .i64 (t.u 0), .int .i64 (t.u 1), .int .i64 (t.u 2), .int .i64 (t.u 3), .int .i64 (t.l 0), .int .i64 (t.l 1), .int .i64 (t.l 2), .int .i64 (t.l 3), .int .i64 (t.b 0), .int .i64 (t.b 1), .int .i64 (t.b 2), .int .i64 (t.b 3), .int .i64 t.d] 25)) wc.heap.size t ∧ Below wc.heap.size wc (wc.alloc (.cells #[.int .i64 (t.u 0), .int .i64 (t.u 1), .int .i64 (t.u 2), .int .i64 (t.u 3), .int .i64 (t.l 0), .int .i64 (t.l 1), .int .i64 (t.l 2), .int .i64 (t.l 3), .int .i64 (t.b 0), .int .i64 (t.b 1), .int .i64 (t.b 2), .int .i64 (t.b 3), .int .i64 t.d] 25))) := ⟨Tb.tabAt_new wc t 25, (Below.refl _ _).alloc (Nat.le_refl _) _⟩
          have HD1 : Hid (TabAt (wc.alloc (.cells #[.int .i64 (t.u 0), .int .i64 (t.u 1 + 1), .int .i64 (t.u 2), .int .i64 (t.u 3), .int .i64 (t.l 0), .int .i64 (t.l 1), .int .i64 (t.l 2), .int .i64 (t.l 3), .int .i64 (t.b 0), .int .i64 (t.b 1), .int .i64 (t.b 2), .int .i64 (t.b 3), .int .i64 t.d] 25)) wc.heap.size (tup t 1) ∧ Below wc.heap.size wc (wc.alloc (.cells #[.int .i64 (t.u 0), .int .i64 (t.u 1 + 1), .int .i64 (t.u 2), .int .i64 (t.u 3), .int .i64 (t.l 0), .int .i64 (t.l 1), .int .i64 (t.l 2), .int .i64 (t.l 3), .int .i64 (t.b 0), .int .i64 (t.b 1), .int .i64 (t.b 2), .int .i64 (t.b 3), .int .i64 t.d] 25))) := ⟨Tb.tabAt_new wc (tup t 1) 25, (Below.refl _ _).alloc (Nat.le_refl _) _⟩
          by_cases hu8 : t.u 1 < 8
          · go_upto_region 11 with fail
            generalize (wc.alloc (.cells #[.int .i64 (t.u 0), .int .i64 (t.u 1 + 1), .int .i64 (t.u 2), .int .i64 (t.u 3), .int .i64 (t.l 0), .int .i64 (t.l 1), .int .i64 (t.l 2), .int .i64 (t.l 3), .int .i64 (t.b 0), .int .i64 (t.b 1), .int .i64 (t.b 2), .int .i64 (t.b 3), .int .i64 t.d] 25)) = X at *
            clear tu0 tu1 tu2 tu3 tl0 tl1 tl2 tl3 tb0 tb1 tb2 tb3 td tz
            have HX : Hid (Mb w X t o) := HC.out.next HD1.out.2
            have tD : TabAt X wc.heap.size (tup t 1) := HD1.out.1
            have tu0 : X.cell? ⟨wc.heap.size, 0, none⟩ = some (.int .i64 (t.u 0)) := tD.cu 0 (by decide); have tu1 : X.cell? ⟨wc.heap.size, 1, none⟩ = some (.int .i64 (t.u 1 + 1)) := tD.cu 1 (by decide); have tu2 : X.cell? ⟨wc.heap.size, 2, none⟩ = some (.int .i64 (t.u 2)) := tD.cu 2 (by decide); have tu3 : X.cell? ⟨wc.heap.size, 3, none⟩ = some (.int .i64 (t.u 3)) := tD.cu 3 (by decide); have tl0 : X.cell? ⟨wc.heap.size, 4, none⟩ = some (.int .i64 (t.l 0)) := tD.cl 0 (by decide); have tl1 : X.cell? ⟨wc.heap.size, 5, none⟩ = some (.int .i64 (t.l 1)) := tD.cl 1 (by decide); have tl2 : X.cell? ⟨wc.heap.size, 6, none⟩ = some (.int .i64 (t.l 2)) := tD.cl 2 (by decide); have tl3 : X.cell? ⟨wc.heap.size, 7, none⟩ = some (.int .i64 (t.l 3)) := tD.cl 3 (by decide); have tb0 : X.cell? ⟨wc.heap.size, 8, none⟩ = some (.int .i64 (t.b 0)) := tD.cb 0 (by decide); have tb1 : X.cell? ⟨wc.heap.size, 9, none⟩ = some (.int .i64 (t.b 1)) := tD.cb 1 (by decide); have tb2 : X.cell? ⟨wc.heap.size, 10, none⟩ = some (.int .i64 (t.b 2)) := tD.cb 2 (by decide); have tb3 : X.cell? ⟨wc.heap.size, 11, none⟩ = some (.int .i64 (t.b 3)) := tD.cb 3 (by decide); have td : X.cell? ⟨wc.heap.size, 12, none⟩ = some (.int .i64 t.d) := tD.cd; have tz := tD.lt
            clear tD
            generalize wc.heap.size = ub at *
            by_cases hgk : gk = 0
            · have hle : ck ≤ a1 := HLs.out rfl hgk
              subst hgk
              go_wp2_with (first
                | (go_at_call 6; refine Calls.mono (HUk.out _ HX.out.up) ?_; rintro e w6 ⟨rfl, hb⟩; have HX6 : Hid (Mb w w6 t o) := HX.out.next hb; clear hb HUk HX; clear tu0 tu1 tu2 tu3 tl0 tl1 tl2 tl3 tb0 tb1 tb2 tb3 td tz)
                | (go_at_call 12; refine Calls.mono (HW.out _ HX6.out.up) ?_; rintro e w7 ⟨rfl, hb⟩; have HX7 : Hid (Mb w w7 t o) := HX6.out.next hb; clear hb HW HX6))
              go_ret
              exact ⟨rfl, HX7.out.up⟩
            · have hgk' : (gk != 0) = true := by simpa using hgk
              clear hgk
              go_wp2_with (first
                | (go_at_call 6; refine Calls.mono (HUk.out _ HX.out.up) ?_; rintro e w6 ⟨rfl, hb⟩; have HX6 : Hid (Mb w w6 t o) := HX.out.next hb; clear hb HUk HX; clear tu0 tu1 tu2 tu3 tl0 tl1 tl2 tl3 tb0 tb1 tb2 tb3 td tz)
                | (go_at_call 12; refine Calls.mono (HW.out _ HX6.out.up) ?_; rintro e w7 ⟨rfl, hb⟩; have HX7 : Hid (Mb w w7 t o) := HX6.out.next hb; clear hb HW HX6))
              go_ret
              exact ⟨rfl, HX7.out.up⟩
          · have HUk : Hid (∀ W, Below w.heap.size w W → Calls Tryd.prog 6 #[.slice ao xs.length cap, .agg #[.int .i64 (t.u 0), .int .i64 (t.u 1), .int .i64 (t.u 2), .int .i64 (t.u 3), .int .i64 (t.l 0), .int .i64 (t.l 1), .int .i64 (t.l 2), .int .i64 (t.l 3), .int .i64 (t.b 0), .int .i64 (t.b 1), .int .i64 (t.b 2), .int .i64 (t.b 3), .int .i64 t.d]] W fun e w' => e = .returned (.tuple #[.int .i64 a1, .int .i64 0]) ∧ Below W.heap.size W w') := HU1b.out
            go_upto_region 11 with fail
            generalize (wc.alloc (.cells #[.int .i64 (t.u 0), .int .i64 (t.u 1), .int .i64 (t.u 2), .int .i64 (t.u 3), .int .i64 (t.l 0), .int .i64 (t.l 1), .int .i64 (t.l 2), .int .i64 (t.l 3), .int .i64 (t.b 0), .int .i64 (t.b 1), .int .i64 (t.b 2), .int .i64 (t.b 3), .int .i64 t.d] 25)) = X at *
            clear tu0 tu1 tu2 tu3 tl0 tl1 tl2 tl3 tb0 tb1 tb2 tb3 td tz
            have HX : Hid (Mb w X t o) := HC.out.next HD0.out.2
            have tD : TabAt X wc.heap.size t := HD0.out.1
            have tu0 := tD.cu 0 (by decide); have tu1 := tD.cu 1 (by decide); have tu2 := tD.cu 2 (by decide); have tu3 := tD.cu 3 (by decide); have tl0 := tD.cl 0 (by decide); have tl1 := tD.cl 1 (by decide); have tl2 := tD.cl 2 (by decide); have tl3 := tD.cl 3 (by decide); have tb0 := tD.cb 0 (by decide); have tb1 := tD.cb 1 (by decide); have tb2 := tD.cb 2 (by decide); have tb3 := tD.cb 3 (by decide); have td := tD.cd; have tz := tD.lt
            clear tD
            generalize wc.heap.size = ub at *
            have hle : a1 ≤ a1 := Int.le_refl _
            go_wp2_with (first
              | (go_at_call 6; refine Calls.mono (HUk.out _ HX.out.up) ?_; rintro e w6 ⟨rfl, hb⟩; have HX6 : Hid (Mb w w6 t o) := HX.out.next hb; clear hb HUk HX; clear tu0 tu1 tu2 tu3 tl0 tl1 tl2 tl3 tb0 tb1 tb2 tb3 td tz)
              | (go_at_call 12; refine Calls.mono (HW.out _ HX6.out.up) ?_; rintro e w7 ⟨rfl, hb⟩; have HX7 : Hid (Mb w w7 t o) := HX6.out.next hb; clear hb HW HX6))
            go_ret
            exact ⟨rfl, HX7.out.up⟩
        · have HUk : Hid (∀ W, Below w.heap.size w W → Calls Tryd.prog 6 #[.slice ao xs.length cap, .agg #[.int .i64 (t.u 0), .int .i64 (t.u 1), .int .i64 (t.u 2 + 1), .int .i64 (t.u 3), .int .i64 (t.l 0), .int .i64 (t.l 1), .int .i64 (t.l 2), .int .i64 (t.l 3), .int .i64 (t.b 0), .int .i64 (t.b 1), .int .i64 (t.b 2), .int .i64 (t.b 3), .int .i64 t.d]] W fun e w' => e = .returned (.tuple #[.int .i64 (unE (tup t 2) ys), .int .i64 (rgE (tup t 2) ys)]) ∧ Below W.heap.size W w') := fun W hb => HUt.out (tup t 2) W hb
          have HLs : Hid (_) := HM2.out 2
          have hub := HUb.out 2 (by omega)
          obtain ⟨ck, hck⟩ : ∃ ck, unE (tup t 2) ys = ck := ⟨_, rfl⟩
          obtain ⟨gk, hgk⟩ : ∃ gk, rgE (tup t 2) ys = gk := ⟨_, rfl⟩
          rw [hck, hgk] at HUk HLs
          clear hck hgk
          have HD0 : Hid (TabAt (wc.alloc (.cells #[.int .i64 (t.u 0), .int .i64 (t.u 1), .int .i64 (t.u 2), .int .i64 (t.u 3), .int .i64 (t.l 0), .int .i64 (t.l 1), .int .i64 (t.l 2), .int .i64 (t.l 3), .int .i64 (t.b 0), .int .i64 (t.b 1), .int .i64 (t.b 2), .int .i64 (t.b 3), .int .i64 t.d] 25)) wc.heap.size t ∧ Below wc.heap.size wc (wc.alloc (.cells #[.int .i64 (t.u 0), .int .i64 (t.u 1), .int .i64 (t.u 2), .int .i64 (t.u 3), .int .i64 (t.l 0), .int .i64 (t.l 1), .int .i64 (t.l 2), .int .i64 (t.l 3), .int .i64 (t.b 0), .int .i64 (t.b 1), .int .i64 (t.b 2), .int .i64 (t.b 3), .int .i64 t.d] 25))) := ⟨Tb.tabAt_new wc t 25, (Below.refl _ _).alloc (Nat.le_refl _) _⟩
          have HD1 : Hid (TabAt (wc.alloc (.cells #[.int .i64 (t.u 0), .int .i64 (t.u 1), .int .i64 (t.u 2 + 1), .int .i64 (t.u 3), .int .i64 (t.l 0), .int .i64 (t.l 1), .int .i64 (t.l 2), .int .i64 (t.l 3), .int .i64 (t.b 0), .int .i64 (t.b 1), .int .i64 (t.b 2), .int .i64 (t.b 3), .int .i64 t.d] 25)) wc.heap.size (tup t 2) ∧ Below wc.heap.size wc (wc.alloc (.cells #[.int .i64 (t.u 0), .int .i64 (t.u 1), .int .i64 (t.u 2 + 1), .int .i64 (t.u 3), .int .i64 (t.l 0), .int .i64 (t.l 1), .int .i64 (t.l 2), .int .i64 (t.l 3), .int .i64 (t.b 0), .int .i64 (t.b 1), .int .i64 (t.b 2), .int .i64 (t.b 3), .int .i64 t.d] 25))) := ⟨Tb.tabAt_new wc (tup t 2) 25, (Below.refl _ _).alloc (Nat.le_refl _) _⟩
          by_cases hu8 : t.u 2 < 8
          · go_upto_region 11 with fail
            generalize (wc.alloc (.cells #[.int .i64 (t.u 0), .int .i64 (t.u 1), .int .i64 (t.u 2 + 1), .int .i64 (t.u 3), .int .i64 (t.l 0), .int .i64 (t.l 1), .int .i64 (t.l 2), .int .i64 (t.l 3), .int .i64 (t.b 0), .int .i64 (t.b 1), .int .i64 (t.b 2), .int .i64 (t.b 3), .int .i64 t.d] 25)) = X at *
            clear tu0 tu1 tu2 tu3 tl0 tl1 tl2 tl3 tb0 tb1 tb2 tb3 td tz
            have HX : Hid (Mb w X t o) := HC.out.next HD1.out.2
            have tD : TabAt X wc.heap.size (tup t 2) := HD1.out.1
            have tu0 : X.cell? ⟨wc.heap.size, 0, none⟩ = some (.int .i64 (t.u 0)) := tD.cu 0 (by decide); have tu1 : X.cell? ⟨wc.heap.size, 1, none⟩ = some (.int .i64 (t.u 1)) := tD.cu 1 (by decide); have tu2 : X.cell? ⟨wc.heap.size, 2, none⟩ = some (.int .i64 (t.u 2 + 1)) := tD.cu 2 (by decide); have tu3 : X.cell? ⟨wc.heap.size, 3, none⟩ = some (.int .i64 (t.u 3)) := tD.cu 3 (by decide); have tl0 : X.cell? ⟨wc.heap.size, 4, none⟩ = some (.int .i64 (t.l 0)) := tD.cl 0 (by decide); have tl1 : X.cell? ⟨wc.heap.size, 5, none⟩ = some (.int .i64 (t.l 1)) := tD.cl 1 (by decide); have tl2 : X.cell? ⟨wc.heap.size, 6, none⟩ = some (.int .i64 (t.l 2)) := tD.cl 2 (by decide); have tl3 : X.cell? ⟨wc.heap.size, 7, none⟩ = some (.int .i64 (t.l 3)) := tD.cl 3 (by decide); have tb0 : X.cell? ⟨wc.heap.size, 8, none⟩ = some (.int .i64 (t.b 0)) := tD.cb 0 (by decide); have tb1 : X.cell? ⟨wc.heap.size, 9, none⟩ = some (.int .i64 (t.b 1)) := tD.cb 1 (by decide); have tb2 : X.cell? ⟨wc.heap.size, 10, none⟩ = some (.int .i64 (t.b 2)) := tD.cb 2 (by decide); have tb3 : X.cell? ⟨wc.heap.size, 11, none⟩ = some (.int .i64 (t.b 3)) := tD.cb 3 (by decide); have td : X.cell? ⟨wc.heap.size, 12, none⟩ = some (.int .i64 t.d) := tD.cd; have tz := tD.lt
            clear tD
            generalize wc.heap.size = ub at *
            by_cases hgk : gk = 0
            · have hle : ck ≤ a1 := HLs.out rfl hgk
              subst hgk
              go_wp2_with (first
                | (go_at_call 6; refine Calls.mono (HUk.out _ HX.out.up) ?_; rintro e w6 ⟨rfl, hb⟩; have HX6 : Hid (Mb w w6 t o) := HX.out.next hb; clear hb HUk HX; clear tu0 tu1 tu2 tu3 tl0 tl1 tl2 tl3 tb0 tb1 tb2 tb3 td tz)
                | (go_at_call 12; refine Calls.mono (HW.out _ HX6.out.up) ?_; rintro e w7 ⟨rfl, hb⟩; have HX7 : Hid (Mb w w7 t o) := HX6.out.next hb; clear hb HW HX6))
              go_ret
              exact ⟨rfl, HX7.out.up⟩
            · have hgk' : (gk != 0) = true := by simpa using hgk
              clear hgk
              go_wp2_with (first
                | (go_at_call 6; refine Calls.mono (HUk.out _ HX.out.up) ?_; rintro e w6 ⟨rfl, hb⟩; have HX6 : Hid (Mb w w6 t o) := HX.out.next hb; clear hb HUk HX; clear tu0 tu1 tu2 tu3 tl0 tl1 tl2 tl3 tb0 tb1 tb2 tb3 td tz)
                | (go_at_call 12; refine Calls.mono (HW.out _ HX6.out.up) ?_; rintro e w7 ⟨rfl, hb⟩; have HX7 : Hid (Mb w w7 t o) := HX6.out.next hb; clear hb HW HX6))
              go_ret
              exact ⟨rfl, HX7.out.up⟩
          · have HUk : Hid (∀ W, Below w.heap.size w W → Calls Tryd.prog 6 #[.slice ao xs.length cap, .agg #[.int .i64 (t.u 0), .int .i64 (t.u 1), .int .i64 (t.u 2), .int .i64 (t.u 3), .int .i64 (t.l 0), .int .i64 (t.l 1), .int .i64 (t.l 2), .int .i64 (t.l 3), .int .i64 (t.b 0), .int .i64 (t.b 1), .int .i64 (t.b 2), .int .i64 (t.b 3), .int .i64 t.d]] W fun e w' => e = .returned (.tuple #[.int .i64 a1, .int .i64 0]) ∧ Below W.heap.size W w') := HU1b.out
            go_upto_region 11 with fail
            generalize (wc.alloc (.cells #[.int .i64 (t.u 0), .int .i64 (t.u 1), .int .i64 (t.u 2), .int .i64 (t.u 3), .int .i64 (t.l 0), .int .i64 (t.l 1), .int .i64 (t.l 2), .int .i64 (t.l 3), .int .i64 (t.b 0), .int .i64 (t.b 1), .int .i64 (t.b 2), .int .i64 (t.b 3), .int .i64 t.d] 25)) = X at *
            clear tu0 tu1 tu2 tu3 tl0 tl1 tl2 tl3 tb0 tb1 tb2 tb3 td tz
            have HX : Hid (Mb w X t o) := HC.out.next HD0.out.2
            have tD : TabAt X wc.heap.size t := HD0.out.1
            have tu0 := tD.cu 0 (by decide); have tu1 := tD.cu 1 (by decide); have tu2 := tD.cu 2 (by decide); have tu3 := tD.cu 3 (by decide); have tl0 := tD.cl 0 (by decide); have tl1 := tD.cl 1 (by decide); have tl2 := tD.cl 2 (by decide); have tl3 := tD.cl 3 (by decide); have tb0 := tD.cb 0 (by decide); have tb1 := tD.cb 1 (by decide); have tb2 := tD.cb 2 (by decide); have tb3 := tD.cb 3 (by decide); have td := tD.cd; have tz := tD.lt
            clear tD
            generalize wc.heap.size = ub at *
            have hle : a1 ≤ a1 := Int.le_refl _
            go_wp2_with (first
              | (go_at_call 6; refine Calls.mono (HUk.out _ HX.out.up) ?_; rintro e w6 ⟨rfl, hb⟩; have HX6 : Hid (Mb w w6 t o) := HX.out.next hb; clear hb HUk HX; clear tu0 tu1 tu2 tu3 tl0 tl1 tl2 tl3 tb0 tb1 tb2 tb3 td tz)
              | (go_at_call 12; refine Calls.mono (HW.out _ HX6.out.up) ?_; rintro e w7 ⟨rfl, hb⟩; have HX7 : Hid (Mb w w7 t o) := HX6.out.next hb; clear hb HW HX6))
            go_ret
            exact ⟨rfl, HX7.out.up⟩
        · have HUk : Hid (∀ W, Below w.heap.size w W → Calls Tryd.prog 6 #[.slice ao xs.length cap, .agg #[.int .i64 (t.u 0), .int .i64 (t.u 1), .int .i64 (t.u 2), .int .i64 (t.u 3 + 1), .int .i64 (t.l 0), .int .i64 (t.l 1), .int .i64 (t.l 2), .int .i64 (t.l 3), .int .i64 (t.b 0), .int .i64 (t.b 1), .int .i64 (t.b 2), .int .i64 (t.b 3), .int .i64 t.d]] W fun e w' => e = .returned (.tuple #[.int .i64 (unE (tup t 3) ys), .int .i64 (rgE (tup t 3) ys)]) ∧ Below W.heap.size W w') := fun W hb => HUt.out (tup t 3) W hb
          have HLs : Hid (_) := HM2.out 3
          have hub := HUb.out 3 (by omega)
          obtain ⟨ck, hck⟩ : ∃ ck, unE (tup t 3) ys = ck := ⟨_, rfl⟩
          obtain ⟨gk, hgk⟩ : ∃ gk, rgE (tup t 3) ys = gk := ⟨_, rfl⟩
          rw [hck, hgk] at HUk HLs
          clear hck hgk
          have HD0 : Hid (TabAt (wc.alloc (.cells #[.int .i64 (t.u 0), .int .i64 (t.u 1), .int .i64 (t.u 2), .int .i64 (t.u 3), .int .i64 (t.l 0), .int .i64 (t.l 1), .int .i64 (t.l 2), .int .i64 (t.l 3), .int .i64 (t.b 0), .int .i64 (t.b 1), .int .i64 (t.b 2), .int .i64 (t.b 3), .int .i64 t.d] 25)) wc.heap.size t ∧ Below wc.heap.size wc (wc.alloc (.cells #[.int .i64 (t.u 0), .int .i64 (t.u 1), .int .i64 (t.u 2), .int .i64 (t.u 3), .int .i64 (t.l 0), .int .i64 (t.l 1), .int .i64 (t.l 2), .int .i64 (t.l 3), .int .i64 (t.b 0), .int .i64 (t.b 1), .int .i64 (t.b 2), .int .i64 (t.b 3), .int .i64 t.d] 25))) := ⟨Tb.tabAt_new wc t 25, (Below.refl _ _).alloc (Nat.le_refl _) _⟩
          have HD1 : Hid (TabAt (wc.alloc (.cells #[.int .i64 (t.u 0), .int .i64 (t.u 1), .int .i64 (t.u 2), .int .i64 (t.u 3 + 1), .int .i64 (t.l 0), .int .i64 (t.l 1), .int .i64 (t.l 2), .int .i64 (t.l 3), .int .i64 (t.b 0), .int .i64 (t.b 1), .int .i64 (t.b 2), .int .i64 (t.b 3), .int .i64 t.d] 25)) wc.heap.size (tup t 3) ∧ Below wc.heap.size wc (wc.alloc (.cells #[.int .i64 (t.u 0), .int .i64 (t.u 1), .int .i64 (t.u 2), .int .i64 (t.u 3 + 1), .int .i64 (t.l 0), .int .i64 (t.l 1), .int .i64 (t.l 2), .int .i64 (t.l 3), .int .i64 (t.b 0), .int .i64 (t.b 1), .int .i64 (t.b 2), .int .i64 (t.b 3), .int .i64 t.d] 25))) := ⟨Tb.tabAt_new wc (tup t 3) 25, (Below.refl _ _).alloc (Nat.le_refl _) _⟩
          by_cases hu8 : t.u 3 < 8
          · go_upto_region 11 with fail
            generalize (wc.alloc (.cells #[.int .i64 (t.u 0), .int .i64 (t.u 1), .int .i64 (t.u 2), .int .i64 (t.u 3 + 1), .int .i64 (t.l 0), .int .i64 (t.l 1), .int .i64 (t.l 2), .int .i64 (t.l 3), .int .i64 (t.b 0), .int .i64 (t.b 1), .int .i64 (t.b 2), .int .i64 (t.b 3), .int .i64 t.d] 25)) = X at *
            clear tu0 tu1 tu2 tu3 tl0 tl1 tl2 tl3 tb0 tb1 tb2 tb3 td tz
            have HX : Hid (Mb w X t o) := HC.out.next HD1.out.2
            have tD : TabAt X wc.heap.size (tup t 3) := HD1.out.1
            have tu0 : X.cell? ⟨wc.heap.size, 0, none⟩ = some (.int .i64 (t.u 0)) := tD.cu 0 (by decide); have tu1 : X.cell? ⟨wc.heap.size, 1, none⟩ = some (.int .i64 (t.u 1)) := tD.cu 1 (by decide); have tu2 : X.cell? ⟨wc.heap.size, 2, none⟩ = some (.int .i64 (t.u 2)) := tD.cu 2 (by decide); have tu3 : X.cell? ⟨wc.heap.size, 3, none⟩ = some (.int .i64 (t.u 3 + 1)) := tD.cu 3 (by decide); have tl0 : X.cell? ⟨wc.heap.size, 4, none⟩ = some (.int .i64 (t.l 0)) := tD.cl 0 (by decide); have tl1 : X.cell? ⟨wc.heap.size, 5, none⟩ = some (.int .i64 (t.l 1)) := tD.cl 1 (by decide); have tl2 : X.cell? ⟨wc.heap.size, 6, none⟩ = some (.int .i64 (t.l 2)) := tD.cl 2 (by decide); have tl3 : X.cell? ⟨wc.heap.size, 7, none⟩ = some (.int .i64 (t.l 3)) := tD.cl 3 (by decide); have tb0 : X.cell? ⟨wc.heap.size, 8, none⟩ = some (.int .i64 (t.b 0)) := tD.cb 0 (by decide); have tb1 : X.cell? ⟨wc.heap.size, 9, none⟩ = some (.int .i64 (t.b 1)) := tD.cb 1 (by decide); have tb2 : X.cell? ⟨wc.heap.size, 10, none⟩ = some (.int .i64 (t.b 2)) := tD.cb 2 (by decide); have tb3 : X.cell? ⟨wc.heap.size, 11, none⟩ = some (.int .i64 (t.b 3)) := tD.cb 3 (by decide); have td : X.cell? ⟨wc.heap.size, 12, none⟩ = some (.int .i64 t.d) := tD.cd; have tz := tD.lt
            clear tD
            generalize wc.heap.size = ub at *
            by_cases hgk : gk = 0
            · have hle : ck ≤ a1 := HLs.out rfl hgk
              subst hgk
              go_wp2_with (first
                | (go_at_call 6; refine Calls.mono (HUk.out _ HX.out.up) ?_; rintro e w6 ⟨rfl, hb⟩; have HX6 : Hid (Mb w w6 t o) := HX.out.next hb; clear hb HUk HX; clear tu0 tu1 tu2 tu3 tl0 tl1 tl2 tl3 tb0 tb1 tb2 tb3 td tz)
                | (go_at_call 12; refine Calls.mono (HW.out _ HX6.out.up) ?_; rintro e w7 ⟨rfl, hb⟩; have HX7 : Hid (Mb w w7 t o) := HX6.out.next hb; clear hb HW HX6))
              go_ret
              exact ⟨rfl, HX7.out.up⟩
            · have hgk' : (gk != 0) = true := by simpa using hgk
              clear hgk
              go_wp2_with (first
                | (go_at_call 6; refine Calls.mono (HUk.out _ HX.out.up) ?_; rintro e w6 ⟨rfl, hb⟩; have HX6 : Hid (Mb w w6 t o) := HX.out.next hb; clear hb HUk HX; clear tu0 tu1 tu2 tu3 tl0 tl1 tl2 tl3 tb0 tb1 tb2 tb3 td tz)
                | (go_at_call 12; refine Calls.mono (HW.out _ HX6.out.up) ?_; rintro e w7 ⟨rfl, hb⟩; have HX7 : Hid (Mb w w7 t o) := HX6.out.next hb; clear hb HW HX6))
              go_ret
              exact ⟨rfl, HX7.out.up⟩
          · have HUk : Hid (∀ W, Below w.heap.size w W → Calls Tryd.prog 6 #[.slice ao xs.length cap, .agg #[.int .i64 (t.u 0), .int .i64 (t.u 1), .int .i64 (t.u 2), .int .i64 (t.u 3), .int .i64 (t.l 0), .int .i64 (t.l 1), .int .i64 (t.l 2), .int .i64 (t.l 3), .int .i64 (t.b 0), .int .i64 (t.b 1), .int .i64 (t.b 2), .int .i64 (t.b 3), .int .i64 t.d]] W fun e w' => e = .returned (.tuple #[.int .i64 a1, .int .i64 0]) ∧ Below W.heap.size W w') := HU1b.out
            go_upto_region 11 with fail
            generalize (wc.alloc (.cells #[.int .i64 (t.u 0), .int .i64 (t.u 1), .int .i64 (t.u 2), .int .i64 (t.u 3), .int .i64 (t.l 0), .int .i64 (t.l 1), .int .i64 (t.l 2), .int .i64 (t.l 3), .int .i64 (t.b 0), .int .i64 (t.b 1), .int .i64 (t.b 2), .int .i64 (t.b 3), .int .i64 t.d] 25)) = X at *
            clear tu0 tu1 tu2 tu3 tl0 tl1 tl2 tl3 tb0 tb1 tb2 tb3 td tz
            have HX : Hid (Mb w X t o) := HC.out.next HD0.out.2
            have tD : TabAt X wc.heap.size t := HD0.out.1
            have tu0 := tD.cu 0 (by decide); have tu1 := tD.cu 1 (by decide); have tu2 := tD.cu 2 (by decide); have tu3 := tD.cu 3 (by decide); have tl0 := tD.cl 0 (by decide); have tl1 := tD.cl 1 (by decide); have tl2 := tD.cl 2 (by decide); have tl3 := tD.cl 3 (by decide); have tb0 := tD.cb 0 (by decide); have tb1 := tD.cb 1 (by decide); have tb2 := tD.cb 2 (by decide); have tb3 := tD.cb 3 (by decide); have td := tD.cd; have tz := tD.lt
            clear tD
            generalize wc.heap.size = ub at *
            have hle : a1 ≤ a1 := Int.le_refl _
            go_wp2_with (first
              | (go_at_call 6; refine Calls.mono (HUk.out _ HX.out.up) ?_; rintro e w6 ⟨rfl, hb⟩; have HX6 : Hid (Mb w w6 t o) := HX.out.next hb; clear hb HUk HX; clear tu0 tu1 tu2 tu3 tl0 tl1 tl2 tl3 tb0 tb1 tb2 tb3 td tz)
              | (go_at_call 12; refine Calls.mono (HW.out _ HX6.out.up) ?_; rintro e w7 ⟨rfl, hb⟩; have HX7 : Hid (Mb w w7 t o) := HX6.out.next hb; clear hb HW HX6))
            go_ret
            exact ⟨rfl, HX7.out.up⟩
    · have he' : (e1 == 0) = false := by simpa using he
      have he2 : (e1 != 0) = true := by simpa using he
      clear HM1 he
      have tC := HC.out.t
      have tu0 := tC.cu 0 (by decide); have tu1 := tC.cu 1 (by decide); have tu2 := tC.cu 2 (by decide); have tu3 := tC.cu 3 (by decide); have tl0 := tC.cl 0 (by decide); have tl1 := tC.cl 1 (by decide); have tl2 := tC.cl 2 (by decide); have tl3 := tC.cl 3 (by decide); have tb0 := tC.cb 0 (by decide); have tb1 := tC.cb 1 (by decide); have tb2 := tC.cb 2 (by decide); have tb3 := tC.cb 3 (by decide); have td := tC.cd; have tz := tC.lt
      clear tC
      go_upto_region 8 with fail
      rw [HC4.out]
      have hcs : c4 = 0 ∨ c4 = 1 ∨ c4 = 2 ∨ c4 = 3 := by omega
      rcases hcs with rfl | rfl | rfl | rfl
      · have HUk : Hid (∀ W, Below w.heap.size w W → Calls Tryd.prog 6 #[.slice ao xs.length cap, .agg #[.int .i64 (t.u 0 + 1), .int .i64 (t.u 1), .int .i64 (t.u 2), .int .i64 (t.u 3), .int .i64 (t.l 0), .int .i64 (t.l 1), .int .i64 (t.l 2), .int .i64 (t.l 3), .int .i64 (t.b 0), .int .i64 (t.b 1), .int .i64 (t.b 2), .int .i64 (t.b 3), .int .i64 t.d]] W fun e w' => e = .returned (.tuple #[.int .i64 (unE (tup t 0) ys), .int .i64 (rgE (tup t 0) ys)]) ∧ Below W.heap.size W w') := fun W hb => HUt.out (tup t 0) W hb
        have HLs : Hid (_) := HM2.out 0
        have hub := HUb.out 0 (by omega)
        obtain ⟨ck, hck⟩ : ∃ ck, unE (tup t 0) ys = ck := ⟨_, rfl⟩
        obtain ⟨gk, hgk⟩ : ∃ gk, rgE (tup t 0) ys = gk := ⟨_, rfl⟩
        rw [hck, hgk] at HUk HLs
        clear hck hgk
        have HD0 : Hid (TabAt (wc.alloc (.cells #[.int .i64 (t.u 0), .int .i64 (t.u 1), .int .i64 (t.u 2), .int .i64 (t.u 3), .int .i64 (t.l 0), .int .i64 (t.l 1), .int .i64 (t.l 2), .int .i64 (t.l 3), .int .i64 (t.b 0), .int .i64 (t.b 1), .int .i64 (t.b 2), .int .i64 (t.b 3), .int .i64 t.d] 25)) wc.heap.size t ∧ Below wc.heap.size wc (wc.alloc (.cells #[.int .i64 (t.u 0), .int .i64 (t.u 1), .int .i64 (t.u 2), .int .i64 (t.u 3), .int .i64 (t.l 0), .int .i64 (t.l 1), .int .i64 (t.l 2), .int .i64 (t.l 3), .int .i64 (t.b 0), .int .i64 (t.b 1), .int .i64 (t.b 2), .int .i64 (t.b 3), .int .i64 t.d] 25))) := ⟨Tb.tabAt_new wc t 25, (Below.refl _ _).alloc (Nat.le_refl _) _⟩
        have HD1 : Hid (TabAt (wc.alloc (.cells #[.int .i64 (t.u 0 + 1), .int .i64 (t.u 1), .int .i64 (t.u 2), .int .i64 (t.u 3), .int .i64 (t.l 0), .int .i64 (t.l 1), .int .i64 (t.l 2), .int .i64 (t.l 3), .int .i64 (t.b 0), .int .i64 (t.b 1), .int .i64 (t.b 2), .int .i64 (t.b 3), .int .i64 t.d] 25)) wc.heap.size (tup t 0) ∧ Below wc.heap.size wc (wc.alloc (.cells #[.int .i64 (t.u 0 + 1), .int .i64 (t.u 1), .int .i64 (t.u 2), .int .i64 (t.u 3), .int .i64 (t.l 0), .int .i64 (t.l 1), .int .i64 (t.l 2), .int .i64 (t.l 3), .int .i64 (t.b 0), .int .i64 (t.b 1), .int .i64 (t.b 2), .int .i64 (t.b 3), .int .i64 t.d] 25))) := ⟨Tb.tabAt_new wc (tup t 0) 25, (Below.refl _ _).alloc (Nat.le_refl _) _⟩
        by_cases hu8 : t.u 0 < 8
        · go_upto_region 11 with fail
          generalize (wc.alloc (.cells #[.int .i64 (t.u 0 + 1), .int .i64 (t.u 1), .int .i64 (t.u 2), .int .i64 (t.u 3), .int .i64 (t.l 0), .int .i64 (t.l 1), .int .i64 (t.l 2), .int .i64 (t.l 3), .int .i64 (t.b 0), .int .i64 (t.b 1), .int .i64 (t.b 2), .int .i64 (t.b 3), .int .i64 t.d] 25)) = X at *
          clear tu0 tu1 tu2 tu3 tl0 tl1 tl2 tl3 tb0 tb1 tb2 tb3 td tz
          have HX : Hid (Mb w X t o) := HC.out.next HD1.out.2
          have tD : TabAt X wc.heap.size (tup t 0) := HD1.out.1
          have tu0 : X.cell? ⟨wc.heap.size, 0, none⟩ = some (.int .i64 (t.u 0 + 1)) := tD.cu 0 (by decide); have tu1 : X.cell? ⟨wc.heap.size, 1, none⟩ = some (.int .i64 (t.u 1)) := tD.cu 1 (by decide); have tu2 : X.cell? ⟨wc.heap.size, 2, none⟩ = some (.int .i64 (t.u 2)) := tD.cu 2 (by decide); have tu3 : X.cell? ⟨wc.heap.size, 3, none⟩ = some (.int .i64 (t.u 3)) := tD.cu 3 (by decide); have tl0 : X.cell? ⟨wc.heap.size, 4, none⟩ = some (.int .i64 (t.l 0)) := tD.cl 0 (by decide); have tl1 : X.cell? ⟨wc.heap.size, 5, none⟩ = some (.int .i64 (t.l 1)) := tD.cl 1 (by decide); have tl2 : X.cell? ⟨wc.heap.size, 6, none⟩ = some (.int .i64 (t.l 2)) := tD.cl 2 (by decide); have tl3 : X.cell? ⟨wc.heap.size, 7, none⟩ = some (.int .i64 (t.l 3)) := tD.cl 3 (by decide); have tb0 : X.cell? ⟨wc.heap.size, 8, none⟩ = some (.int .i64 (t.b 0)) := tD.cb 0 (by decide); have tb1 : X.cell? ⟨wc.heap.size, 9, none⟩ = some (.int .i64 (t.b 1)) := tD.cb 1 (by decide); have tb2 : X.cell? ⟨wc.heap.size, 10, none⟩ = some (.int .i64 (t.b 2)) := tD.cb 2 (by decide); have tb3 : X.cell? ⟨wc.heap.size, 11, none⟩ = some (.int .i64 (t.b 3)) := tD.cb 3 (by decide); have td : X.cell? ⟨wc.heap.size, 12, none⟩ = some (.int .i64 t.d) := tD.cd; have tz := tD.lt
          clear tD
          generalize wc.heap.size = ub at *
          go_wp2_with (first
            | (go_at_call 6; refine Calls.mono (HUk.out _ HX.out.up) ?_; rintro e w6 ⟨rfl, hb⟩; have HX6 : Hid (Mb w w6 t o) := HX.out.next hb; clear hb HUk HX; clear tu0 tu1 tu2 tu3 tl0 tl1 tl2 tl3 tb0 tb1 tb2 tb3 td tz)
            | (go_at_call 12; refine Calls.mono (HW.out _ HX6.out.up) ?_; rintro e w7 ⟨rfl, hb⟩; have HX7 : Hid (Mb w w7 t o) := HX6.out.next hb; clear hb HW HX6))
          go_ret
          exact ⟨rfl, HX7.out.up⟩
        · have HUk : Hid (∀ W, Below w.heap.size w W → Calls Tryd.prog 6 #[.slice ao xs.length cap, .agg #[.int .i64 (t.u 0), .int .i64 (t.u 1), .int .i64 (t.u 2), .int .i64 (t.u 3), .int .i64 (t.l 0), .int .i64 (t.l 1), .int .i64 (t.l 2), .int .i64 (t.l 3), .int .i64 (t.b 0), .int .i64 (t.b 1), .int .i64 (t.b 2), .int .i64 (t.b 3), .int .i64 t.d]] W fun e w' => e = .returned (.tuple #[.int .i64 a1, .int .i64 e1]) ∧ Below W.heap.size W w') := HU1b.out
          go_upto_region 11 with fail
          generalize (wc.alloc (.cells #[.int .i64 (t.u 0), .int .i64 (t.u 1), .int .i64 (t.u 2), .int .i64 (t.u 3), .int .i64 (t.l 0), .int .i64 (t.l 1), .int .i64 (t.l 2), .int .i64 (t.l 3), .int .i64 (t.b 0), .int .i64 (t.b 1), .int .i64 (t.b 2), .int .i64 (t.b 3), .int .i64 t.d] 25)) = X at *
          clear tu0 tu1 tu2 tu3 tl0 tl1 tl2 tl3 tb0 tb1 tb2 tb3 td tz
          have HX : Hid (Mb w X t o) := HC.out.next HD0.out.2
          have tD : TabAt X wc.heap.size t := HD0.out.1
          have tu0 := tD.cu 0 (by decide); have tu1 := tD.cu 1 (by decide); have tu2 := tD.cu 2 (by decide); have tu3 := tD.cu 3 (by decide); have tl0 := tD.cl 0 (by decide); have tl1 := tD.cl 1 (by decide); have tl2 := tD.cl 2 (by decide); have tl3 := tD.cl 3 (by decide); have tb0 := tD.cb 0 (by decide); have tb1 := tD.cb 1 (by decide); have tb2 := tD.cb 2 (by decide); have tb3 := tD.cb 3 (by decide); have td := tD.cd; have tz := tD.lt
          clear tD
          generalize wc.heap.size = ub at *
          go_wp2_with (first
            | (go_at_call 6; refine Calls.mono (HUk.out _ HX.out.up) ?_; rintro e w6 ⟨rfl, hb⟩; have HX6 : Hid (Mb w w6 t o) := HX.out.next hb; clear hb HUk HX; clear tu0 tu1 tu2 tu3 tl0 tl1 tl2 tl3 tb0 tb1 tb2 tb3 td tz)
            | (go_at_call 12; refine Calls.mono (HW.out _ HX6.out.up) ?_; rintro e w7 ⟨rfl, hb⟩; have HX7 : Hid (Mb w w7 t o) := HX6.out.next hb; clear hb HW HX6))
          go_ret
          exact ⟨rfl, HX7.out.up⟩
      · have HUk : Hid (∀ W, Below w.heap.size w W → Calls Tryd.prog 6 #[.slice ao xs.length cap, .agg #[.int .i64 (t.u 0), .int .i64 (t.u 1 + 1), .int .i64 (t.u 2), .int .i64 (t.u 3), .int .i64 (t.l 0), .int .i64 (t.l 1), .int .i64 (t.l 2), .int .i64 (t.l 3), .int .i64 (t.b 0), .int .i64 (t.b 1), .int .i64 (t.b 2), .int .i64 (t.b 3), .int .i64 t.d]] W fun e w' => e = .returned (.tuple #[.int .i64 (unE (tup t 1) ys), .int .i64 (rgE (tup t 1) ys)]) ∧ Below W.heap.size W w') := fun W hb => HUt.out (tup t 1) W hb
        have HLs : Hid (_) := HM2.out 1
        have hub := HUb.out 1 (by omega)
        obtain ⟨ck, hck⟩ : ∃ ck, unE (tup t 1) ys = ck := ⟨_, rfl⟩
        obtain ⟨gk, hgk⟩ : ∃ gk, rgE (tup t 1) ys = gk := ⟨_, rfl⟩
        rw [hck, hgk] at HUk HLs
        clear hck hgk
        have HD0 : Hid (TabAt (wc.alloc (.cells #[.int .i64 (t.u 0), .int .i64 (t.u 1), .int .i64 (t.u 2), .int .i64 (t.u 3), .int .i64 (t.l 0), .int .i64 (t.l 1), .int .i64 (t.l 2), .int .i64 (t.l 3), .int .i64 (t.b 0), .int .i64 (t.b 1), .int .i64 (t.b 2), .int .i64 (t.b 3), .int .i64 t.d] 25)) wc.heap.size t ∧ Below wc.heap.size wc (wc.alloc (.cells #[.int .i64 (t.u 0), .int .i64 (t.u 1), .int .i64 (t.u 2), .int .i64 (t.u 3), .int .i64 (t.l 0), .int .i64 (t.l 1), .int .i64 (t.l 2), .int .i64 (t.l 3), .int .i64 (t.b 0), .int .i64 (t.b 1), .int .i64 (t.b 2), .int .i64 (t.b 3), .int .i64 t.d] 25))) := ⟨Tb.tabAt_new wc t 25, (Below.refl _ _).alloc (Nat.le_refl _) _⟩
        have HD1 : Hid (TabAt (wc.alloc (.cells #[.int .i64 (t.u 0), .int .i64 (t.u 1 + 1), .int .i64 (t.u 2), .int .i64 (t.u 3), .int .i64 (t.l 0), .int .i64 (t.l 1), .int .i64 (t.l 2), .int .i64 (t.l 3), .int .i64 (t.b 0), .int .i64 (t.b 1), .int .i64 (t.b 2), .int .i64 (t.b 3), .int .i64 t.d] 25)) wc.heap.size (tup t 1) ∧ Below wc.heap.size wc (wc.alloc (.cells #[.int .i64 (t.u 0), .int .i64 (t.u 1 + 1), .int .i64 (t.u 2), .int .i64 (t.u 3), .int .i64 (t.l 0), .int .i64 (t.l 1), .int .i64 (t.l 2), .int .i64 (t.l 3), .int .i64 (t.b 0), .int .i64 (t.b 1), .int .i64 (t.b 2), .int .i64 (t.b 3), .int .i64 t.d] 25))) := ⟨Tb.tabAt_new wc (tup t 1) 25, (Below.refl _ _).alloc (Nat.le_refl _) _⟩
        by_cases hu8 : t.u 1 < 8
        · go_upto_region 11 with fail
          generalize (wc.alloc (.cells #[.int .i64 (t.u 0), .int .i64 (t.u 1 + 1), .int .i64 (t.u 2), .int .i64 (t.u 3), .int .i64 (t.l 0), .int .i64 (t.l 1), .int .i64 (t.l 2), .int .i64 (t.l 3), .int .i64 (t.b 0), .int .i64 (t.b 1), .int .i64 (t.b 2), .int .i64 (t.b 3), .int .i64 t.d] 25)) = X at *
          clear tu0 tu1 tu2 tu3 tl0 tl1 tl2 tl3 tb0 tb1 tb2 tb3 td tz
          have HX : Hid (Mb w X t o) := HC.out.next HD1.out.2
          have tD : TabAt X wc.heap.size (tup t 1) := HD1.out.1
          have tu0 : X.cell? ⟨wc.heap.size, 0, none⟩ = some (.int .i64 (t.u 0)) := tD.cu 0 (by decide); have tu1 : X.cell? ⟨wc.heap.size, 1, none⟩ = some (.int .i64 (t.u 1 + 1)) := tD.cu 1 (by decide); have tu2 : X.cell? ⟨wc.heap.size, 2, none⟩ = some (.int .i64 (t.u 2)) := tD.cu 2 (by decide); have tu3 : X.cell? ⟨wc.heap.size, 3, none⟩ = some (.int .i64 (t.u 3)) := tD.cu 3 (by decide); have tl0 : X.cell? ⟨wc.heap.size, 4, none⟩ = some (.int .i64 (t.l 0)) := tD.cl 0 (by decide); have tl1 : X.cell? ⟨wc.heap.size, 5, none⟩ = some (.int .i64 (t.l 1)) := tD.cl 1 (by decide); have tl2 : X.cell? ⟨wc.heap.size, 6, none⟩ = some (.int .i64 (t.l 2)) := tD.cl 2 (by decide); have tl3 : X.cell? ⟨wc.heap.size, 7, none⟩ = some (.int .i64 (t.l 3)) := tD.cl 3 (by decide); have tb0 : X.cell? ⟨wc.heap.size, 8, none⟩ = some (.int .i64 (t.b 0)) := tD.cb 0 (by decide); have tb1 : X.cell? ⟨wc.heap.size, 9, none⟩ = some (.int .i64 (t.b 1)) := tD.cb 1 (by decide); have tb2 : X.cell? ⟨wc.heap.size, 10, none⟩ = some (.int .i64 (t.b 2)) := tD.cb 2 (by decide); have tb3 : X.cell? ⟨wc.heap.size, 11, none⟩ = some (.int .i64 (t.b 3)) := tD.cb 3 (by decide); have td : X.cell? ⟨wc.heap.size, 12, none⟩ = some (.int .i64 t.d) := tD.cd; have tz := tD.lt
          clear tD
          generalize wc.heap.size = ub at *
          go_wp2_with (first
            | (go_at_call 6; refine Calls.mono (HUk.out _ HX.out.up) ?_; rintro e w6 ⟨rfl, hb⟩; have HX6 : Hid (Mb w w6 t o) := HX.out.next hb; clear hb HUk HX; clear tu0 tu1 tu2 tu3 tl0 tl1 tl2 tl3 tb0 tb1 tb2 tb3 td tz)
            | (go_at_call 12; refine Calls.mono (HW.out _ HX6.out.up) ?_; rintro e w7 ⟨rfl, hb⟩; have HX7 : Hid (Mb w w7 t o) := HX6.out.next hb; clear hb HW HX6))
          go_ret
          exact ⟨rfl, HX7.out.up⟩
        · have HUk : Hid (∀ W, Below w.heap.size w W → Calls Tryd.prog 6 #[.slice ao xs.length cap, .agg #[.int .i64 (t.u 0), .int .i64 (t.u 1), .int .i64 (t.u 2), .int .i64 (t.u 3), .int .i64 (t.l 0), .int .i64 (t.l 1), .int .i64 (t.l 2), .int .i64 (t.l 3), .int .i64 (t.b 0), .int .i64 (t.b 1), .int .i64 (t.b 2), .int .i64 (t.b 3), .int .i64 t.d]] W fun e w' => e = .returned (.tuple #[.int .i64 a1, .int .i64 e1]) ∧ Below W.heap.size W w') := HU1b.out
          go_upto_region 11 with fail
          generalize (wc.alloc (.cells #[.int .i64 (t.u 0), .int .i64 (t.u 1), .int .i64 (t.u 2), .int .i64 (t.u 3), .int .i64 (t.l 0), .int .i64 (t.l 1), .int .i64 (t.l 2), .int .i64 (t.l 3), .int .i64 (t.b 0), .int .i64 (t.b 1), .int .i64 (t.b 2), .int .i64 (t.b 3), .int .i64 t.d] 25)) = X at *
          clear tu0 tu1 tu2 tu3 tl0 tl1 tl2 tl3 tb0 tb1 tb2 tb3 td tz
          have HX : Hid (Mb w X t o) := HC.out.next HD0.out.2
          have tD : TabAt X wc.heap.size t := HD0.out.1
          have tu0 := tD.cu 0 (by decide); have tu1 := tD.cu 1 (by decide); have tu2 := tD.cu 2 (by decide); have tu3 := tD.cu 3 (by decide); have tl0 := tD.cl 0 (by decide); have tl1 := tD.cl 1 (by decide); have tl2 := tD.cl 2 (by decide); have tl3 := tD.cl 3 (by decide); have tb0 := tD.cb 0 (by decide); have tb1 := tD.cb 1 (by decide); have tb2 := tD.cb 2 (by decide); have tb3 := tD.cb 3 (by decide); have td := tD.cd; have tz := tD.lt
          clear tD
          generalize wc.heap.size = ub at *
          go_wp2_with (first
            | (go_at_call 6; refine Calls.mono (HUk.out _ HX.out.up) ?_; rintro e w6 ⟨rfl, hb⟩; have HX6 : Hid (Mb w w6 t o) := HX.out.next hb; clear hb HUk HX; clear tu0 tu1 tu2 tu3 tl0 tl1 tl2 tl3 tb0 tb1 tb2 tb3 td tz)
            | (go_at_call 12; refine Calls.mono (HW.out _ HX6.out.up) ?_; rintro e w7 ⟨rfl, hb⟩; have HX7 : Hid (Mb w w7 t o) := HX6.out.next hb; clear hb HW HX6))
          go_ret
          exact ⟨rfl, HX7.out.up⟩
      · have HUk : Hid (∀ W, Below w.heap.size w W → Calls Tryd.prog 6 #[.slice ao xs.length cap, .agg #[.int .i64 (t.u 0), .int .i64 (t.u 1), .int .i64 (t.u 2 + 1), .int .i64 (t.u 3), .int .i64 (t.l 0), .int .i64 (t.l 1), .int .i64 (t.l 2), .int .i64 (t.l 3), .int .i64 (t.b 0), .int .i64 (t.b 1), .int .i64 (t.b 2), .int .i64 (t.b 3), .int .i64 t.d]] W fun e w' => e = .returned (.tuple #[.int .i64 (unE (tup t 2) ys), .int .i64 (rgE (tup t 2) ys)]) ∧ Below W.heap.size W w') := fun W hb => HUt.out (tup t 2) W hb
        have HLs : Hid (_) := HM2.out 2
        have hub := HUb.out 2 (by omega)
        obtain ⟨ck, hck⟩ : ∃ ck, unE (tup t 2) ys = ck := ⟨_, rfl⟩
        obtain ⟨gk, hgk⟩ : ∃ gk, rgE (tup t 2) ys = gk := ⟨_, rfl⟩
        rw [hck, hgk] at HUk HLs
        clear hck hgk
        have HD0 : Hid (TabAt (wc.alloc (.cells #[.int .i64 (t.u 0), .int .i64 (t.u 1), .int .i64 (t.u 2), .int .i64 (t.u 3), .int .i64 (t.l 0), .int .i64 (t.l 1), .int .i64 (t.l 2), .int .i64 (t.l 3), .int .i64 (t.b 0), .int .i64 (t.b 1), .int .i64 (t.b 2), .int .i64 (t.b 3), .int .i64 t.d] 25)) wc.heap.size t ∧ Below wc.heap.size wc (wc.alloc (.cells #[.int .i64 (t.u 0), .int .i64 (t.u 1), .int .i64 (t.u 2), .int .i64 (t.u 3), .int .i64 (t.l 0), .int .i64 (t.l 1), .int .i64 (t.l 2), .int .i64 (t.l 3), .int .i64 (t.b 0), .int .i64 (t.b 1), .int .i64 (t.b 2), .int .i64 (t.b 3), .int .i64 t.d] 25))) := ⟨Tb.tabAt_new wc t 25, (Below.refl _ _).alloc (Nat.le_refl _) _⟩
        have HD1 : Hid (TabAt (wc.alloc (.cells #[.int .i64 (t.u 0), .int .i64 (t.u 1), .int .i64 (t.u 2 + 1), .int .i64 (t.u 3), .int .i64 (t.l 0), .int .i64 (t.l 1), .int .i64 (t.l 2), .int .i64 (t.l 3), .int .i64 (t.b 0), .int .i64 (t.b 1), .int .i64 (t.b 2), .int .i64 (t.b 3), .int .i64 t.d] 25)) wc.heap.size (tup t 2) ∧ Below wc.heap.size wc (wc.alloc (.cells #[.int .i64 (t.u 0), .int .i64 (t.u 1), .int .i64 (t.u 2 + 1), .int .i64 (t.u 3), .int .i64 (t.l 0), .int .i64 (t.l 1), .int .i64 (t.l 2), .int .i64 (t.l 3), .int .i64 (t.b 0), .int .i64 (t.b 1), .int .i64 (t.b 2), .int .i64 (t.b 3), .int .i64 t.d] 25))) := ⟨Tb.tabAt_new wc (tup t 2) 25, (Below.refl _ _).alloc (Nat.le_refl _) _⟩
        by_cases hu8 : t.u 2 < 8
        · go_upto_region 11 with fail
          generalize (wc.alloc (.cells #[.int .i64 (t.u 0), .int .i64 (t.u 1), .int .i64 (t.u 2 + 1), .int .i64 (t.u 3), .int .i64 (t.l 0), .int .i64 (t.l 1), .int .i64 (t.l 2), .int .i64 (t.l 3), .int .i64 (t.b 0), .int .i64 (t.b 1), .int .i64 (t.b 2), .int .i64 (t.b 3), .int .i64 t.d] 25)) = X at *
          clear tu0 tu1 tu2 tu3 tl0 tl1 tl2 tl3 tb0 tb1 tb2 tb3 td tz
          have HX : Hid (Mb w X t o) := HC.out.next HD1.out.2
          have tD : TabAt X wc.heap.size (tup t 2) := HD1.out.1
          have tu0 : X.cell? ⟨wc.heap.size, 0, none⟩ = some (.int .i64 (t.u 0)) := tD.cu 0 (by decide); have tu1 : X.cell? ⟨wc.heap.size, 1, none⟩ = some (.int .i64 (t.u 1)) := tD.cu 1 (by decide); have tu2 : X.cell? ⟨wc.heap.size, 2, none⟩ = some (.int .i64 (t.u 2 + 1)) := tD.cu 2 (by decide); have tu3 : X.cell? ⟨wc.heap.size, 3, none⟩ = some (.int .i64 (t.u 3)) := tD.cu 3 (by decide); have tl0 : X.cell? ⟨wc.heap.size, 4, none⟩ = some (.int .i64 (t.l 0)) := tD.cl 0 (by decide); have tl1 : X.cell? ⟨wc.heap.size, 5, none⟩ = some (.int .i64 (t.l 1)) := tD.cl 1 (by decide); have tl2 : X.cell? ⟨wc.heap.size, 6, none⟩ = some (.int .i64 (t.l 2)) := tD.cl 2 (by decide); have tl3 : X.cell? ⟨wc.heap.size, 7, none⟩ = some (.int .i64 (t.l 3)) := tD.cl 3 (by decide); have tb0 : X.cell? ⟨wc.heap.size, 8, none⟩ = some (.int .i64 (t.b 0)) := tD.cb 0 (by decide); have tb1 : X.cell? ⟨wc.heap.size, 9, none⟩ = some (.int .i64 (t.b 1)) := tD.cb 1 (by decide); have tb2 : X.cell? ⟨wc.heap.size, 10, none⟩ = some (.int .i64 (t.b 2)) := tD.cb 2 (by decide); have tb3 : X.cell? ⟨wc.heap.size, 11, none⟩ = some (.int .i64 (t.b 3)) := tD.cb 3 (by decide); have td : X.cell? ⟨wc.heap.size, 12, none⟩ = some (.int .i64 t.d) := tD.cd; have tz := tD.lt
          clear tD
          generalize wc.heap.size = ub at *
          go_wp2_with (first
            | (go_at_call 6; refine Calls.mono (HUk.out _ HX.out.up) ?_; rintro e w6 ⟨rfl, hb⟩; have HX6 : Hid (Mb w w6 t o) := HX.out.next hb; clear hb HUk HX; clear tu0 tu1 tu2 tu3 tl0 tl1 tl2 tl3 tb0 tb1 tb2 tb3 td tz)
            | (go_at_call 12; refine Calls.mono (HW.out _ HX6.out.up) ?_; rintro e w7 ⟨rfl, hb⟩; have HX7 : Hid (Mb w w7 t o) := HX6.out.next hb; clear hb HW HX6))
          go_ret
          exact ⟨rfl, HX7.out.up⟩
        · have HUk : Hid (∀ W, Below w.heap.size w W → Calls Tryd.prog 6 #[.slice ao xs.length cap, .agg #[.int .i64 (t.u 0), .int .i64 (t.u 1), .int .i64 (t.u 2), .int .i64 (t.u 3), .int .i64 (t.l 0), .int .i64 (t.l 1), .int .i64 (t.l 2), .int .i64 (t.l 3), .int .i64 (t.b 0), .int .i64 (t.b 1), .int .i64 (t.b 2), .int .i64 (t.b 3), .int .i64 t.d]] W fun e w' => e = .returned (.tuple #[.int .i64 a1, .int .i64 e1]) ∧ Below W.heap.size W w') := HU1b.out
          go_upto_region 11 with fail
          generalize (wc.alloc (.cells #[.int .i64 (t.u 0), .int .i64 (t.u 1), .int .i64 (t.u 2), .int .i64 (t.u 3), .int .i64 (t.l 0), .int .i64 (t.l 1), .int .i64 (t.l 2), .int .i64 (t.l 3), .int .i64 (t.b 0), .int .i64 (t.b 1), .int .i64 (t.b 2), .int .i64 (t.b 3), .int .i64 t.d] 25)) = X at *
          clear tu0 tu1 tu2 tu3 tl0 tl1 tl2 tl3 tb0 tb1 tb2 tb3 td tz
          have HX : Hid (Mb w X t o) := HC.out.next HD0.out.2
          have tD : TabAt X wc.heap.size t := HD0.out.1
          have tu0 := tD.cu 0 (by decide); have tu1 := tD.cu 1 (by decide); have tu2 := tD.cu 2 (by decide); have tu3 := tD.cu 3 (by decide); have tl0 := tD.cl 0 (by decide); have tl1 := tD.cl 1 (by decide); have tl2 := tD.cl 2 (by decide); have tl3 := tD.cl 3 (by decide); have tb0 := tD.cb 0 (by decide); have tb1 := tD.cb 1 (by decide); have tb2 := tD.cb 2 (by decide); have tb3 := tD.cb 3 (by decide); have td := tD.cd; have tz := tD.lt
          clear tD
          generalize wc.heap.size = ub at *
          go_wp2_with (first
            | (go_at_call 6; refine Calls.mono (HUk.out _ HX.out.up) ?_; rintro e w6 ⟨rfl, hb⟩; have HX6 : Hid (Mb w w6 t o) := HX.out.next hb; clear hb HUk HX; clear tu0 tu1 tu2 tu3 tl0 tl1 tl2 tl3 tb0 tb1 tb2 tb3 td tz)
            | (go_at_call 12; refine Calls.mono (HW.out _ HX6.out.up) ?_; rintro e w7 ⟨rfl, hb⟩; have HX7 : Hid (Mb w w7 t o) := HX6.out.next hb; clear hb HW HX6))
          go_ret
          exact ⟨rfl, HX7.out.up⟩
      · have HUk : Hid (∀ W, Below w.heap.size w W → Calls Tryd.prog 6 #[.slice ao xs.length cap, .agg #[.int .i64 (t.u 0), .int .i64 (t.u 1), .int .i64 (t.u 2), .int .i64 (t.u 3 + 1), .int .i64 (t.l 0), .int .i64 (t.l 1), .int .i64 (t.l 2), .int .i64 (t.l 3), .int .i64 (t.b 0), .int .i64 (t.b 1), .int .i64 (t.b 2), .int .i64 (t.b 3), .int .i64 t.d]] W fun e w' => e = .returned (.tuple #[.int .i64 (unE (tup t 3) ys), .int .i64 (rgE (tup t 3) ys)]) ∧ Below W.heap.size W w') := fun W hb => HUt.out (tup t 3) W hb
        have HLs : Hid (_) := HM2.out 3
        have hub := HUb.out 3 (by omega)
        obtain ⟨ck, hck⟩ : ∃ ck, unE (tup t 3) ys = ck := ⟨_, rfl⟩
        obtain ⟨gk, hgk⟩ : ∃ gk, rgE (tup t 3) ys = gk := ⟨_, rfl⟩
        rw [hck, hgk] at HUk HLs
        clear hck hgk
        have HD0 : Hid (TabAt (wc.alloc (.cells #[.int .i64 (t.u 0), .int .i64 (t.u 1), .int .i64 (t.u 2), .int .i64 (t.u 3), .int .i64 (t.l 0), .int .i64 (t.l 1), .int .i64 (t.l 2), .int .i64 (t.l 3), .int .i64 (t.b 0), .int .i64 (t.b 1), .int .i64 (t.b 2), .int .i64 (t.b 3), .int .i64 t.d] 25)) wc.heap.size t ∧ Below wc.heap.size wc (wc.alloc (.cells #[.int .i64 (t.u 0), .int .i64 (t.u 1), .int .i64 (t.u 2), .int .i64 (t.u 3), .int .i64 (t.l 0), .int .i64 (t.l 1), .int .i64 (t.l 2), .int .i64 (t.l 3), .int .i64 (t.b 0), .int .i64 (t.b 1), .int .i64 (t.b 2), .int .i64 (t.b 3), .int .i64 t.d] 25))) := ⟨Tb.tabAt_new wc t 25, (Below.refl _ _).alloc (Nat.le_refl _) _⟩
        have HD1 : Hid (TabAt (wc.alloc (.cells #[.int .i64 (t.u 0), .int .i64 (t.u 1), .int .i64 (t.u 2), .int .i64 (t.u 3 + 1), .int .i64 (t.l 0), .int .i64 (t.l 1), .int .i64 (t.l 2), .int .i64 (t.l 3), .int .i64 (t.b 0), .int .i64 (t.b 1), .int .i64 (t.b 2), .int .i64 (t.b 3), .int .i64 t.d] 25)) wc.heap.size (tup t 3) ∧ Below wc.heap.size wc (wc.alloc (.cells #[.int .i64 (t.u 0), .int .i64 (t.u 1), .int .i64 (t.u 2), .int .i64 (t.u 3 + 1), .int .i64 (t.l 0), .int .i64 (t.l 1), .int .i64 (t.l 2), .int .i64 (t.l 3), .int .i64 (t.b 0), .int .i64 (t.b 1), .int .i64 (t.b 2), .int .i64 (t.b 3), .int .i64 t.d] 25))) := ⟨Tb.tabAt_new wc (tup t 3) 25, (Below.refl _ _).alloc (Nat.le_refl _) _⟩
        by_cases hu8 : t.u 3 < 8
        · go_upto_region 11 with fail
          generalize (wc.alloc (.cells #[.int .i64 (t.u 0), .int .i64 (t.u 1), .int .i64 (t.u 2), .int .i64 (t.u 3 + 1), .int .i64 (t.l 0), .int .i64 (t.l 1), .int .i64 (t.l 2), .int .i64 (t.l 3), .int .i64 (t.b 0), .int .i64 (t.b 1), .int .i64 (t.b 2), .int .i64 (t.b 3), .int .i64 t.d] 25)) = X at *
          clear tu0 tu1 tu2 tu3 tl0 tl1 tl2 tl3 tb0 tb1 tb2 tb3 td tz
          have HX : Hid (Mb w X t o) := HC.out.next HD1.out.2
          have tD : TabAt X wc.heap.size (tup t 3) := HD1.out.1
          have tu0 : X.cell? ⟨wc.heap.size, 0, none⟩ = some (.int .i64 (t.u 0)) := tD.cu 0 (by decide); have tu1 : X.cell? ⟨wc.heap.size, 1, none⟩ = some (.int .i64 (t.u 1)) := tD.cu 1 (by decide); have tu2 : X.cell? ⟨wc.heap.size, 2, none⟩ = some (.int .i64 (t.u 2)) := tD.cu 2 (by decide); have tu3 : X.cell? ⟨wc.heap.size, 3, none⟩ = some (.int .i64 (t.u 3 + 1)) := tD.cu 3 (by decide); have tl0 : X.cell? ⟨wc.heap.size, 4, none⟩ = some (.int .i64 (t.l 0)) := tD.cl 0 (by decide); have tl1 : X.cell? ⟨wc.heap.size, 5, none⟩ = some (.int .i64 (t.l 1)) := tD.cl 1 (by decide); have tl2 : X.cell? ⟨wc.heap.size, 6, none⟩ = some (.int .i64 (t.l 2)) := tD.cl 2 (by decide); have tl3 : X.cell? ⟨wc.heap.size, 7, none⟩ = some (.int .i64 (t.l 3)) := tD.cl 3 (by decide); have tb0 : X.cell? ⟨wc.heap.size, 8, none⟩ = some (.int .i64 (t.b 0)) := tD.cb 0 (by decide); have tb1 : X.cell? ⟨wc.heap.size, 9, none⟩ = some (.int .i64 (t.b 1)) := tD.cb 1 (by decide); have tb2 : X.cell? ⟨wc.heap.size, 10, none⟩ = some (.int .i64 (t.b 2)) := tD.cb 2 (by decide); have tb3 : X.cell? ⟨wc.heap.size, 11, none⟩ = some (.int .i64 (t.b 3)) := tD.cb 3 (by decide); have td : X.cell? ⟨wc.heap.size, 12, none⟩ = some (.int .i64 t.d) := tD.cd; have tz := tD.lt
          clear tD
          generalize wc.heap.size = ub at *
          go_wp2_with (first
            | (go_at_call 6; refine Calls.mono (HUk.out _ HX.out.up) ?_; rintro e w6 ⟨rfl, hb⟩; have HX6 : Hid (Mb w w6 t o) := HX.out.next hb; clear hb HUk HX; clear tu0 tu1 tu2 tu3 tl0 tl1 tl2 tl3 tb0 tb1 tb2 tb3 td tz)
            | (go_at_call 12; refine Calls.mono (HW.out _ HX6.out.up) ?_; rintro e w7 ⟨rfl, hb⟩; have HX7 : Hid (Mb w w7 t o) := HX6.out.next hb; clear hb HW HX6))
          go_ret
          exact ⟨rfl, HX7.out.up⟩
        · have HUk : Hid (∀ W, Below w.heap.size w W → Calls Tryd.prog 6 #[.slice ao xs.length cap, .agg #[.int .i64 (t.u 0), .int .i64 (t.u 1), .int .i64 (t.u 2), .int .i64 (t.u 3), .int .i64 (t.l 0), .int .i64 (t.l 1), .int .i64 (t.l 2), .int .i64 (t.l 3), .int .i64 (t.b 0), .int .i64 (t.b 1), .int .i64 (t.b 2), .int .i64 (t.b 3), .int .i64 t.d]] W fun e w' => e = .returned (.tuple #[.int .i64 a1, .int .i64 e1]) ∧ Below W.heap.size W w') := HU1b.out
          go_upto_region 11 with fail
          generalize (wc.alloc (.cells #[.int .i64 (t.u 0), .int .i64 (t.u 1), .int .i64 (t.u 2), .int .i64 (t.u 3), .int .i64 (t.l 0), .int .i64 (t.l 1), .int .i64 (t.l 2), .int .i64 (t.l 3), .int .i64 (t.b 0), .int .i64 (t.b 1), .int .i64 (t.b 2), .int .i64 (t.b 3), .int .i64 t.d] 25)) = X at *
          clear tu0 tu1 tu2 tu3 tl0 tl1 tl2 tl3 tb0 tb1 tb2 tb3 td tz
          have HX : Hid (Mb w X t o) := HC.out.next HD0.out.2
          have tD : TabAt X wc.heap.size t := HD0.out.1
          have tu0 := tD.cu 0 (by decide); have tu1 := tD.cu 1 (by decide); have tu2 := tD.cu 2 (by decide); have tu3 := tD.cu 3 (by decide); have tl0 := tD.cl 0 (by decide); have tl1 := tD.cl 1 (by decide); have tl2 := tD.cl 2 (by decide); have tl3 := tD.cl 3 (by decide); have tb0 := tD.cb 0 (by decide); have tb1 := tD.cb 1 (by decide); have tb2 := tD.cb 2 (by decide); have tb3 := tD.cb 3 (by decide); have td := tD.cd; have tz := tD.lt
          clear tD
          generalize wc.heap.size = ub at *
          go_wp2_with (first
            | (go_at_call 6; refine Calls.mono (HUk.out _ HX.out.up) ?_; rintro e w6 ⟨rfl, hb⟩; have HX6 : Hid (Mb w w6 t o) := HX.out.next hb; clear hb HUk HX; clear tu0 tu1 tu2 tu3 tl0 tl1 tl2 tl3 tb0 tb1 tb2 tb3 td tz)
            | (go_at_call 12; refine Calls.mono (HW.out _ HX6.out.up) ?_; rintro e w7 ⟨rfl, hb⟩; have HX7 : Hid (Mb w w7 t o) := HX6.out.next hb; clear hb HW HX6))
          go_ret
          exact ⟨rfl, HX7.out.up⟩
end Go.Proofs.YthdpgimdakmdgaaDoor.Bn
