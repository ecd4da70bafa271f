/- Package modulo: the class of an operation, whether the units are kept (classOf, keepUnits), read off the program by the walk. Conditions: the lists lie in memory, the variables as the program lays them. -/
import Derived.Test.YteccifanbgcakaaGreatDoorN33
import Derived.Test.YteccifanbgcakaaGreatDoorN23
namespace Go.Proofs.YteccifanbgcakaaGreatDoor.Mo
open Go.ChangeShapes Go.WideShapes Go.ChangeAt Go.RowKit
open _root_.Go.Proofs.YteccifanbgcakaaGreatDoor.Op _root_.Go.Proofs.YteccifanbgcakaaGreatDoor.So _root_.Go.Proofs.YteccifanbgcakaaGreatDoor.Dp _root_.Go.Proofs.YteccifanbgcakaaGreatDoor.Bn
open _root_.Go.Proofs.YteccifanbgcakaaGreatDoor.Ls (clN clN_at clN_lt Nl arC arC_all arC_yes arC_no areCycles_any)
open _root_.Go.Proofs.YteccifanbgcakaaGreatDoor.Rv (RAt Few frB tkF tk_few take_any evOk NwOut ring_ok tn addK)
open _root_.Go.Proofs.YteccifanbgcakaaGreatDoor.Tb (Tab TabAt Bnds)
set_option maxRecDepth 20000

open _root_.Go.Proofs.YteccifanbgcakaaGreatDoor.Ls (atFr)
set_option maxHeartbeats 1000000 in
theorem classOf_any (o : O) (w : World) : Calls Tryz.prog 51 #[o.val] w fun e w' => e = .returned (.int .i64 (Ls.clD o.op : Int)) ∧ Below w.heap.size w w' := by
  unfold Ls.clD
  by_cases h1 : 15 ≤ o.op
  · rw [if_pos h1]
    go_enter Tryz.func51, Tryz.ntmps51
    go_wp2
    go_ret
    exact ⟨rfl, by go_grown⟩
  · rw [if_neg h1]
    by_cases h2 : 12 ≤ o.op
    · rw [if_pos h2]
      go_enter Tryz.func51, Tryz.ntmps51
      go_wp2
      go_ret
      exact ⟨rfl, by go_grown⟩
    · rw [if_neg h2]
      go_enter Tryz.func51, Tryz.ntmps51
      go_wp2
      go_ret
      exact ⟨rfl, by go_grown⟩
theorem kuB_no {t : Tab} {xs : List O} {g : Nat → Int} {E : Int} {k : Nat} (h : k < xs.length) (e : frB t (some E) (rcF t xs g E k) (clN xs k : Int) (g k) = false) : false = kuB t xs g E := by
  symm
  refine Bool.and_eq_false_iff.2 (.inl (List.all_eq_false.2 ⟨k, List.mem_range.2 h, ?_⟩))
  rw [e]
  decide
theorem kuB_end {t : Tab} {xs : List O} {g : Nat → Int} {E : Int} (h : ∀ k, k < xs.length → frB t (some E) (rcF t xs g E k) (clN xs k : Int) (g k) = true) : frB t (some E) (rcF t xs g E xs.length) 3 (E - 1 - t.d) = kuB t xs g E := by
  unfold kuB
  rw [List.all_eq_true.2 fun k hk => h k (List.mem_range.1 hk), Bool.true_and]
/-- The reservations under way. -/
structure Ku (w W : World) (t : Tab) (E : Int) (pc : Array Value) (rb mb m : Nat) (f : Int → Int → Int) : Prop where
  ra : RAt W rb t (some E) mb m f
  up : Below w.heap.size w W
  m0 : w.heap.size + 2 ≤ mb
  p : At W w.heap.size pc
  t : TabAt W (w.heap.size + 1) t
theorem Ku.next {w W W' : World} {t : Tab} {E : Int} {pc : Array Value} {rb mb m : Nat} {f : Int → Int → Int} (h : Ku w W t E pc rb mb m f) (g : Below W.heap.size W W') : Ku w W' t E pc rb mb m f := ⟨h.ra.up g, h.up.trans (g.mono h.up.size), h.m0, h.p.below g h.p.lt, h.t.below g h.t.lt⟩
theorem Ku.take {w W W' : World} {t : Tab} {E : Int} {pc : Array Value} {rb mb m m' : Nat} {f f' : Int → Int → Int} (h : Ku w W t E pc rb mb m f) (g : Fr (One mb) W W') (r : RAt W' rb t (some E) mb m' f') : Ku w W' t E pc rb mb m' f' := by
  have hz := h.t.lt
  have h0 := h.m0
  have hb : Below (w.heap.size + 2) W W' := g.below (by omega) fun k hk e => by have e : k = mb := e; omega
  exact ⟨r, h.up.trans (hb.mono (by omega)), h.m0, h.p.below hb (by omega), h.t.below hb (by omega)⟩
theorem ku_start (w : World) (t : Tab) (E S : Int) (a : Option Addr) (n ccap : Nat) {W : World} {rb mb : Nat} (hb : Below (w.heap.size + 2) ((w.alloc (.cells #[.int .i64 E, .slice a n ccap, .int .i64 S] 28)).alloc (.cells t.cells 25)) W) (r : RAt W rb t (some E) mb 0 (fun _ _ => 0)) (hm : w.heap.size + 2 ≤ mb) : Ku w W t E #[.int .i64 E, .slice a n ccap, .int .i64 S] rb mb 0 (fun _ _ => 0) := by
  have a1 := (At.new w #[.int .i64 E, .slice a n ccap, .int .i64 S] 28).alloc (.cells t.cells 25)
  have a2 := Tb.tabAt_new (w.alloc (.cells #[.int .i64 E, .slice a n ccap, .int .i64 S] 28)) t 25
  rw [show (w.alloc (.cells #[.int .i64 E, .slice a n ccap, .int .i64 S] 28)).heap.size = w.heap.size + 1 by simp] at a2
  exact ⟨r, Below.trans (by go_grown) (hb.mono (by omega)), hm, a1.below hb (by omega), a2.below hb (by omega)⟩
set_option maxHeartbeats 8000000 in
theorem keepUnits_any (a ao : Option Addr) (ccap cap : Nat) (xs : List O) (t : Tab) (g : Nat → Int) (E S : Int) (w : World) (hg : Nl w a xs.length g) (hr : ∀ k, k < xs.length → 0 ≤ g k ∧ g k ≤ 65536) (h : OpsAt w ao xs) (hn : xs.length ≤ 1024) (hG : Bnds w) (ht : t.ok = true) (hE : 1 + t.d ≤ E) (hE2 : E ≤ 65536) :
    Calls Tryz.prog 27 #[.agg #[.int .i64 E, .slice a xs.length ccap, .int .i64 S], .slice ao xs.length cap, t.val] w fun e w' => e = .returned (.bool (kuB t xs g E)) ∧ Below w.heap.size w w' := by
  have hck : Tb.ckR t = 0 := by unfold Tb.ckR; rw [if_pos ht]
  have ht1 := (tab_in ht).1
  have HNw : Hid (∀ W, Below w.heap.size w W → Calls Tryz.prog 49 #[.agg #[.int .i64 (t.u 0), .int .i64 (t.u 1), .int .i64 (t.u 2), .int .i64 (t.u 3), .int .i64 (t.l 0), .int .i64 (t.l 1), .int .i64 (t.l 2), .int .i64 (t.l 3), .int .i64 (t.b 0), .int .i64 (t.b 1), .int .i64 (t.b 2), .int .i64 (t.b 3), .int .i64 t.d], .int .i64 E] W fun e w' => ∃ rb mb, e = .returned (.tuple #[.pointer (some ⟨rb, 0, none⟩), .int .i64 0]) ∧ RAt w' rb t (some E) mb 0 (fun _ _ => 0) ∧ (W.heap.size ≤ rb ∧ W.heap.size ≤ mb) ∧ Below W.heap.size W w') := fun W hb => ring_ok t E W (hG.below hb hG.big) hck (by omega) hE2
  have HO : Hid (OpsAt w ao xs ∧ Nl w a xs.length g ∧ t.ok = true ∧ (1 ≤ E ∧ E ≤ 65536)) := ⟨h, hg, ht, by omega⟩
  have HRg : Hid (∀ k, k < xs.length → 0 ≤ g k ∧ g k ≤ 65536) := hr
  obtain ⟨d0, d4⟩ := ht1
  clear h hg hr hck hG ht
  obtain ⟨n, hN⟩ : ∃ n, xs.length = n := ⟨_, rfl⟩
  have HN : Hid (xs.length = n) := hN
  have hn' : (n : Int) ≤ 1024 := by omega
  rw [hN]
  clear hN hn
  unfold Tab.val
  go_enter Tryz.func27, Tryz.ntmps27
  go_wp2_with (first
    | (go_at_call 49; refine Calls.mono (HNw.out _ (by go_grown)) ?_; rintro e w1 ⟨rb, mb, rfl, r1, l1, b1⟩; have HK0 : Hid (Ku w w1 t E #[.int .i64 E, .slice a n ccap, .int .i64 S] rb mb 0 (fun _ _ => 0)) := ku_start w t E S a n ccap (by simpa using b1) r1 (by have := l1.2; simpa using this); clear r1 l1 b1 HNw))
  go_loopw [20] (fun v wr => ∃ k m : Nat, k ≤ n ∧ v = .int .i64 k ∧ Ku w wr t E #[.int .i64 E, .slice a n ccap, .int .i64 S] rb mb m (rcF t xs g E k) ∧ Few (rcF t xs g E k) ∧ m ≤ 4 * k ∧ ∀ j, j < k → frB t (some E) (rcF t xs g E j) (clN xs j : Int) (g j) = true) (fun v _ => n - (intOf v).toNat)
  case atStart => exact ⟨0, 0, by omega, rfl, HK0.out, fun _ _ => ⟨Int.le_refl _, by show (0 : Int) ≤ 8; decide⟩, by omega, fun j hj => by omega⟩
  case round =>
    rename World => wr
    obtain ⟨k, m, hk, rfl, hku, hfw, hm, hall⟩ := hrel
    have HQ : Hid (Ku w wr t E #[.int .i64 E, .slice a n ccap, .int .i64 S] rb mb m (rcF t xs g E k) ∧ Few (rcF t xs g E k) ∧ m ≤ 4 * k ∧ ∀ j, j < k → frB t (some E) (rcF t xs g E j) (clN xs j : Int) (g j) = true) := ⟨hku, hfw, hm, hall⟩
    clear hku hfw hm hall HK0
    by_cases hlt : k < n
    · have k0 : (0 : Int) ≤ (k : Int) := by omega
      have k1 : (k : Int) < (n : Int) := by omega
      have hkx : k < xs.length := by rw [HN.out]; exact hlt
      obtain ⟨b, g0, rfl, hz2, hx⟩ := (HO.out.1.below HQ.out.1.up).is (by omega)
      obtain ⟨q0, q1, q2, q3, q4⟩ := hx k hkx
      obtain ⟨cb, cf, rfl, hcl, hcx⟩ := (HO.out.2.1.up HQ.out.1.up).is (by omega)
      have hck := hcx k hkx
      have HCb : Hid (cb < w.heap.size) := by
        obtain ⟨b', f', e, h1, -⟩ := HO.out.2.1.is (by omega)
        injection e with e
        injection e with e1 _ _
        rw [e1]; exact h1
      obtain ⟨g1, g2⟩ := HRg.out k hkx
      have HX0 : Hid (Ku w (wr.alloc (.cells #[.int .i8 xs[k].op, .int .u8 xs[k].d, .int .u8 xs[k].a, .int .u8 xs[k].b, .int .i64 xs[k].im] 46)) t E #[.int .i64 E, .slice (some ⟨cb, cf, none⟩) n ccap, .int .i64 S] rb mb m (rcF t xs g E k) ∧ At (wr.alloc (.cells #[.int .i8 xs[k].op, .int .u8 xs[k].d, .int .u8 xs[k].a, .int .u8 xs[k].b, .int .i64 xs[k].im] 46)) wr.heap.size xs[k].cells ∧ (wr.alloc (.cells #[.int .i8 xs[k].op, .int .u8 xs[k].d, .int .u8 xs[k].a, .int .u8 xs[k].b, .int .i64 xs[k].im] 46)).cell? ⟨cb, cf + k, none⟩ = some (.int .i64 (g k)) ∧ cb < (wr.alloc (.cells #[.int .i8 xs[k].op, .int .u8 xs[k].d, .int .u8 xs[k].a, .int .u8 xs[k].b, .int .i64 xs[k].im] 46)).heap.size) := by
        have gg : Below wr.heap.size wr (wr.alloc (.cells #[.int .i8 xs[k].op, .int .u8 xs[k].d, .int .u8 xs[k].a, .int .u8 xs[k].b, .int .i64 xs[k].im] 46)) := (Below.refl _ _).alloc (Nat.le_refl _) _
        exact ⟨HQ.out.1.next gg, At.new _ _ _, by rw [(bcell gg).1 _ _ hcl]; exact hck, Nat.lt_of_lt_of_le hcl gg.size⟩
      have hobm : ¬ wr.heap.size = mb := by have := HQ.out.1.ra.cm.lt; omega
      have hcbm : ¬ cb = mb := by have := HQ.out.1.m0; have := HCb.out; omega
      have hpbm : ¬ w.heap.size = mb := by have := HQ.out.1.m0; omega
      have HCl : Hid (∀ Z, Calls Tryz.prog 51 #[xs[k].val] Z fun e w' => e = .returned (.int .i64 (clN xs k : Int)) ∧ Below Z.heap.size Z w') := fun Z => by rw [clN_at hkx]; exact classOf_any xs[k] Z
      have HTk : Hid (∀ Z, Ku w Z t E #[.int .i64 E, .slice (some ⟨cb, cf, none⟩) n ccap, .int .i64 S] rb mb m (rcF t xs g E k) → Calls Tryz.prog 50 #[.pointer (some ⟨rb, 0, none⟩), .int .i64 (clN xs k : Int), .int .i64 (g k)] Z fun e w' => e = .returned (.bool (frB t (some E) (rcF t xs g E k) (clN xs k : Int) (g k))) ∧ ∃ n', RAt w' rb t (some E) mb n' (tkF t (some E) (rcF t xs g E k) (clN xs k : Int) (g k)) ∧ n' ≤ m + 4 ∧ Fr (One mb) Z w') := fun Z hZ => take_any _ _ Z hZ.ra HO.out.2.2.2 HQ.out.2.1 HO.out.2.2.1 (by have := HQ.out.2.2.1; omega)
      have HNo : Hid (frB t (some E) (rcF t xs g E k) (clN xs k : Int) (g k) = false → false = kuB t xs g E) := fun e => kuB_no hkx e
      have HYs : Hid (frB t (some E) (rcF t xs g E k) (clN xs k : Int) (g k) = true → tkF t (some E) (rcF t xs g E k) (clN xs k : Int) (g k) = rcF t xs g E (k + 1) ∧ Few (rcF t xs g E (k + 1)) ∧ ∀ j, j < k + 1 → frB t (some E) (rcF t xs g E j) (clN xs j : Int) (g j) = true) := fun e => by
        have h1 : tkF t (some E) (rcF t xs g E k) (clN xs k : Int) (g k) = rcF t xs g E (k + 1) := by
          unfold tkF
          rw [if_pos e, Int.toNat_natCast]
          rfl
        refine ⟨h1, by rw [← h1]; exact tk_few HQ.out.2.1 HO.out.2.2.1 _ _, fun j hj => ?_⟩
        rcases Nat.lt_or_ge j k with h | h
        · exact HQ.out.2.2.2 j h
        · obtain rfl : j = k := by omega
          exact e
      have HM : Hid (m ≤ 4 * k) := HQ.out.2.2.1
      obtain ⟨o, hoe⟩ : ∃ o, xs[k]'hkx = o := ⟨_, rfl⟩
      rw [hoe] at HX0 HCl q0 q1 q2 q3 q4
      obtain ⟨gk, hgk⟩ : ∃ v, g k = v := ⟨_, rfl⟩
      rw [hgk] at HX0 HTk HNo HYs g1 g2 hck
      clear hx hcx hoe hgk
      obtain ⟨cl, hcl2⟩ : ∃ cl, clN xs k = cl := ⟨_, rfl⟩
      rw [hcl2] at HTk HCl HNo HYs
      clear hcl2
      generalize tkF t (some E) (rcF t xs g E k) (cl : Int) gk = f2 at *
      generalize hfb : frB t (some E) (rcF t xs g E k) (cl : Int) gk = fb at *
      generalize hff : rcF t xs g E k = f at *
      clear hff hfb
      go_upto_region 5 with fail
      generalize (wr.alloc (.cells #[.int .i8 o.op, .int .u8 o.d, .int .u8 o.a, .int .u8 o.b, .int .i64 o.im] 46)) = X at *
      have HX : Hid (Ku w X t E #[.int .i64 E, .slice (some ⟨cb, cf, none⟩) n ccap, .int .i64 S] rb mb m f ∧ At X wr.heap.size #[.int .i8 o.op, .int .u8 o.d, .int .u8 o.a, .int .u8 o.b, .int .i64 o.im] ∧ X.cell? ⟨cb, cf + k, none⟩ = some (.int .i64 gk) ∧ cb < X.heap.size) := HX0.out
      generalize wr.heap.size = ob at *
      clear HQ HX0 q0 q1 q2 q3 q4 hz2 hcl hck
      refine wp_region_held_drew (S := fun Z => At Z ob #[.int .i8 o.op, .int .u8 o.d, .int .u8 o.a, .int .u8 o.b, .int .i64 o.im] ∧ At Z w.heap.size #[.int .i64 E, .slice (some ⟨cb, cf, none⟩) n ccap, .int .i64 S] ∧ Z.cell? ⟨cb, cf + k, none⟩ = some (.int .i64 gk) ∧ cb < Z.heap.size) (by kernel_rfl) ⟨HX.out.2.1.below (drew_up _) HX.out.2.1.lt, HX.out.1.p.below (drew_up _) HX.out.1.p.lt, HX.out.2.2.1, HX.out.2.2.2⟩ (fun hHeld => ?_)
      refine wpAnyH_take (i := 0) (v := .pointer (some ⟨rb, 0, none⟩)) rfl (by kernel_rfl) (by kernel_rfl) (by kernel_rfl) (fun _ _ _ h => h) (Or.inl ⟨by rfl, fun w' hSw => by (go_simp)⟩) hHeld ?_
      simp only [Act.put, List.setIfInBounds_toArray, List.set_cons_zero, List.set_cons_succ, List.getElem_cons_zero, List.getElem_toArray]
      refine wpAnyH_take (i := 1) (v := .agg #[.int .i8 o.op, .int .u8 o.d, .int .u8 o.a, .int .u8 o.b, .int .i64 o.im]) rfl (by kernel_rfl) (by kernel_rfl) (by kernel_rfl) (fun _ _ _ h => h) (Or.inl ⟨by rfl, fun w' hSw => by (have y0 := hSw.1.c 0 _ rfl; have y1 := hSw.1.c 1 _ rfl; have y2 := hSw.1.c 2 _ rfl; have y3 := hSw.1.c 3 _ rfl; have y4 := hSw.1.c 4 _ rfl; have yl := hSw.1.lt; go_simp)⟩) hHeld ?_
      simp only [Act.put, List.setIfInBounds_toArray, List.set_cons_zero, List.set_cons_succ, List.getElem_cons_zero, List.getElem_cons_succ, List.getElem_toArray]
      refine wpAnyH_take (i := 3) (v := .pointer (some ⟨w.heap.size, 1, none⟩)) rfl (by kernel_rfl) (by kernel_rfl) (by kernel_rfl) (fun _ _ _ h => h) (Or.inl ⟨by rfl, fun w' hSw => by (go_simp)⟩) hHeld ?_
      simp only [Act.put, List.setIfInBounds_toArray, List.set_cons_zero, List.set_cons_succ, List.getElem_cons_zero, List.getElem_cons_succ, List.getElem_toArray]
      refine wpAnyH_take (i := 4) (v := .slice (some ⟨cb, cf, none⟩) n ccap) rfl (by kernel_rfl) (by kernel_rfl) (by kernel_rfl) (fun _ _ _ h => h) (Or.inl ⟨by rfl, fun w' hSw => by (have y1 := hSw.2.1.c 1 _ rfl; have yl := hSw.2.1.lt; go_simp)⟩) hHeld ?_
      simp only [Act.put, List.setIfInBounds_toArray, List.set_cons_zero, List.set_cons_succ, List.getElem_cons_zero, List.getElem_cons_succ, List.getElem_toArray]
      refine wpAnyH_take (i := 5) (v := .int .i64 (k : Int)) rfl (by kernel_rfl) (by kernel_rfl) (by kernel_rfl) (fun _ _ _ h => h) (Or.inl ⟨by rfl, fun w' hSw => by (go_simp)⟩) hHeld ?_
      simp only [Act.put, List.setIfInBounds_toArray, List.set_cons_zero, List.set_cons_succ, List.getElem_cons_zero, List.getElem_cons_succ, List.getElem_toArray]
      refine wpAnyH_take (i := 6) (v := .pointer (some ⟨cb, cf + k, none⟩)) rfl (by kernel_rfl) (by kernel_rfl) (by kernel_rfl) (fun _ _ _ h => h) (Or.inl ⟨by rfl, fun w' hSw => by (go_simp)⟩) hHeld ?_
      simp only [Act.put, List.setIfInBounds_toArray, List.set_cons_zero, List.set_cons_succ, List.getElem_cons_zero, List.getElem_cons_succ, List.getElem_toArray]
      refine wpAnyH_take (i := 7) (v := .int .i64 gk) rfl (by kernel_rfl) (by kernel_rfl) (by kernel_rfl) (fun _ _ _ h => h) (Or.inl ⟨by rfl, fun w' hSw => by (have y0 := hSw.2.2.1; have yl := hSw.2.2.2; go_simp)⟩) hHeld ?_
      simp only [Act.put, List.setIfInBounds_toArray, List.set_cons_zero, List.set_cons_succ, List.getElem_cons_zero, List.getElem_cons_succ, List.getElem_toArray]
      refine wpAnyH_ready (rs := [2]) (by kernel_rfl) (by simp) ?_
      refine AllReadyH.cons rfl (fun K hK => ?_) AllReadyH.nil
      go_simp
      refine Calls.mono (HCl.out _) ?_
      rintro e w3 ⟨rfl, b3⟩
      have HX3 : Hid (Ku w w3 t E #[.int .i64 E, .slice (some ⟨cb, cf, none⟩) n ccap, .int .i64 S] rb mb m f ∧ At w3 ob #[.int .i8 o.op, .int .u8 o.d, .int .u8 o.a, .int .u8 o.b, .int .i64 o.im] ∧ w3.cell? ⟨cb, cf + k, none⟩ = some (.int .i64 gk) ∧ cb < w3.heap.size) := ⟨HX.out.1.next ((drew_up _).trans (b3.mono (Nat.le_refl _))), (HX.out.2.1.below (drew_up _) HX.out.2.1.lt).below b3 HX.out.2.1.lt, by rw [(bcell b3).1 _ _ HX.out.2.2.2]; exact HX.out.2.2.1, Nat.lt_of_lt_of_le HX.out.2.2.2 b3.size⟩
      clear b3 HCl
      refine hK.out _ _ ⟨HX3.out.2.1, HX3.out.1.p, HX3.out.2.2⟩ (fun hHeld => ?_)
      clear hK K
      refine wpAnyH_ready (rs := [8]) (by kernel_rfl) (by simp) ?_
      refine AllReadyH.cons rfl (fun K hK => ?_) AllReadyH.nil
      go_simp
      refine Calls.mono (HTk.out _ HX3.out.1) ?_
      rintro e w4 ⟨rfl, m4, r4, l4, f4⟩
      have HX4 : Hid (Ku w w4 t E #[.int .i64 E, .slice (some ⟨cb, cf, none⟩) n ccap, .int .i64 S] rb mb m4 f2 ∧ m4 ≤ m + 4) := ⟨HX3.out.1.take f4 r4, l4⟩
      have hS4 : (fun Z => At Z ob #[.int .i8 o.op, .int .u8 o.d, .int .u8 o.a, .int .u8 o.b, .int .i64 o.im] ∧ At Z w.heap.size #[.int .i64 E, .slice (some ⟨cb, cf, none⟩) n ccap, .int .i64 S] ∧ Z.cell? ⟨cb, cf + k, none⟩ = some (.int .i64 gk) ∧ cb < Z.heap.size) w4 := ⟨atFr HX3.out.2.1 f4 hobm, HX4.out.1.p, (f4.cell HX3.out.2.2.2 hcbm (cf + k)).trans HX3.out.2.2.1, Nat.lt_of_lt_of_le HX3.out.2.2.2 f4.size⟩
      clear r4 l4 f4 HTk
      refine hK.out _ _ hS4 (fun hHeld => ?_)
      clear hK K hS4
      refine wpAnyH_take (i := 9) (v := .bool (!fb)) rfl (by kernel_rfl) (by kernel_rfl) (by kernel_rfl) (fun _ _ _ h => h) (Or.inl ⟨by rfl, fun w' hSw => by (go_simp)⟩) hHeld ?_
      simp only [Act.put, List.setIfInBounds_toArray, List.set_cons_zero, List.set_cons_succ, List.getElem_cons_zero, List.getElem_cons_succ, List.getElem_toArray]
      refine wpAnyH_done (by kernel_rfl) ?_ _
      clear hHeld
      cases fb
      · have HR : Hid (false = kuB t xs g E) := HNo.out (by simp)
        go_wp2_with fail
        go_ret
        exact ⟨ret_bool HR.out, HX4.out.1.up⟩
      · have HR : Hid _ := HYs.out (by simp)
        go_wp2_with fail
        go_roundw
        case rel => exact ⟨k + 1, m4, by omega, by go_num, by rw [← HR.out.1]; exact HX4.out.1, HR.out.2.1, by have := HX4.out.2; have := HM.out; omega, HR.out.2.2⟩
        case measure => simp [intOf]; omega
    · obtain rfl : k = n := by omega
      have k1 : ¬ (k : Int) < (k : Int) := by omega
      have HTk : Hid (∀ Z, Ku w Z t E #[.int .i64 E, .slice a k ccap, .int .i64 S] rb mb m (rcF t xs g E k) → Calls Tryz.prog 50 #[.pointer (some ⟨rb, 0, none⟩), .int .i64 3, .int .i64 (E - 1 - t.d)] Z fun e w' => e = .returned (.bool (kuB t xs g E)) ∧ Fr (One mb) Z w') := fun Z hZ => by
        have hz := take_any 3 (E - 1 - t.d) Z hZ.ra HO.out.2.2.2 HQ.out.2.1 HO.out.2.2.1 (by have := HQ.out.2.2.1; omega)
        have he := kuB_end (t := t) (xs := xs) (g := g) (E := E) fun j hj => HQ.out.2.2.2 j (by rw [← HN.out]; exact hj)
        rw [HN.out] at he
        rw [he] at hz
        refine hz.mono ?_
        rintro e w' ⟨h1, n', -, -, h2⟩
        exact ⟨h1, h2⟩
      obtain ⟨r, hr⟩ : ∃ r, kuB t xs g E = r := ⟨_, rfl⟩
      rw [hr] at HTk
      have HRr : Hid (r = kuB t xs g E) := hr.symm
      clear hr
      have p0 := HQ.out.1.p.c 0 _ rfl
      have pl := HQ.out.1.p.lt
      have qd := HQ.out.1.t.cd
      have qz := HQ.out.1.t.lt
      go_wp2_with (first
        | (go_at_call 50; refine Calls.mono (HTk.out _ HQ.out.1) ?_; rintro e w5 ⟨rfl, f5⟩; have HB : Hid (Below w.heap.size w w5) := HQ.out.1.up.trans (f5.below HQ.out.1.up.size fun j hj e => by have e : j = mb := e; have := HQ.out.1.m0; omega); clear f5 HTk))
      go_ret
      exact ⟨ret_bool HRr.out, HB.out⟩
end Go.Proofs.YteccifanbgcakaaGreatDoor.Mo
