/- The statement DepsLater: out of what the callees answer. Conditions: the list lies in memory, the variables as the program lays them. -/
import Derived.Test.YtccakjijoadjkaaDoorEm
namespace Go.Proofs.YtccakjijoadjkaaDoor.Dp
open Go.ChangeShapes Go.WideShapes Go.ChangeAt Go.RowKit
open _root_.Go.Proofs.YtccakjijoadjkaaDoor.Op _root_.Go.Proofs.YtccakjijoadjkaaDoor.So
open _root_.Go.Proofs.YtccakjijoadjkaaDoor.Tb (Tab TabAt Bnds)
set_option maxRecDepth 20000

theorem erE_len (t : Tab) (xs : List O) (h : xs.length ≤ 200) : (erE t xs (loopE t xs)).length ≤ 100000000 := by
  unfold erE loopE
  split
  · rw [List.length_append]
    have h1 := withinE_len xs (ptsL t xs) xs.length (by omega)
    have h2 := acrossE_len xs (ptsL t xs) xs.length (by rw [ptsL_len]; omega)
    omega
  · simp
theorem tab_set {w : World} {b : Nat} {u : Tab} (h : TabAt w b u) {k : Nat} (hk : k < 4) (v : Int) : TabAt (w.setCell ⟨b, 4 + k, none⟩ (.int .i64 v)) b { u with l := fun c => if c = k then v else u.l c } := by
  have far : ∀ j, ¬ j = 4 + k → (w.setCell ⟨b, 4 + k, none⟩ (.int .i64 v)).cell? ⟨b, j, none⟩ = w.cell? ⟨b, j, none⟩ := fun j hj => by
    rw [World.cell?_setCell_other]
    intro h'; injection h' with _ h2; exact hj h2.symm
  refine ⟨fun j hj => (far j (by omega)).trans (h.cu j hj), fun j hj => ?_, fun j hj => (far (8 + j) (by omega)).trans (h.cb j hj), (far 12 (by omega)).trans h.cd, by simpa using h.lt⟩
  by_cases e : j = k
  · subst e
    rw [World.cell?_setCell_same _ _ _ (h.cl j hj)]
    simp
  · rw [far (4 + j) (by omega), h.cl j hj]
    simp [e]
/-- Both tables under way. -/
structure Lw (w W : World) (t u : Tab) : Prop where
  a : TabAt W w.heap.size t
  b : TabAt W (w.heap.size + 1) u
  f : ∀ j, W.frozen? ⟨w.heap.size + 1, j, none⟩ = false
  up : Below w.heap.size w W
theorem Lw.next {w W W' : World} {t u : Tab} (h : Lw w W t u) (hb : Below W.heap.size W W') : Lw w W' t u := ⟨h.a.below hb h.a.lt, h.b.below hb h.b.lt, fun j => by rw [(bcell hb).2 _ _ h.b.lt]; exact h.f j, h.up.trans (hb.mono h.up.size)⟩
theorem Lw.start (w : World) (t : Tab) (c d : Array Value) (hc : c = t.cells) (hd : d = t.cells) : Lw w ((w.alloc (.cells c 25)).alloc (.cells d 25)) t t := by
  subst hc
  subst hd
  have h1 := Tb.tabAt_new w t 25
  have h2 := Tb.tabAt_new (w.alloc (.cells t.cells 25)) t 25
  have h3 := At.new (w.alloc (.cells t.cells 25)) t.cells 25
  rw [show (w.alloc (.cells t.cells 25)).heap.size = w.heap.size + 1 by simp] at h2 h3
  exact ⟨h1.below ((Below.refl _ _).alloc (Nat.le_refl _) _) h1.lt, h2, h3.f, by go_grown⟩
theorem Lw.set {w W : World} {t u : Tab} (h : Lw w W t u) {k : Nat} (hk : k < 4) (v : Int) : Lw w (W.setCell ⟨w.heap.size + 1, 4 + k, none⟩ (.int .i64 v)) t { u with l := fun c => if c = k then v else u.l c } :=
  ⟨h.a.below ((Below.refl (w.heap.size + 1) W).setCell (Nat.le_refl _) _) (by omega), tab_set h.b hk v, fun j => by rw [World.frozen?_setCell]; exact h.f j, h.up.setCell (by show w.heap.size ≤ w.heap.size + 1; omega) _⟩
theorem laTo_next (t : Tab) (m : Int) {k : Nat} (hk : k < 4) {v : Int} (hv : v = min (max (t.l k) 0 + max (m.tmod 4) 0) 8) : ({ laTo t m k with l := fun c => if c = k then v else (laTo t m k).l c } : Tab) = laTo t m (k + 1) := by
  have e : (fun c => if c = k then v else if c < k then min (max (t.l c) 0 + max (m.tmod 4) 0) 8 else t.l c) = fun c => if c < k + 1 then min (max (t.l c) 0 + max (m.tmod 4) 0) 8 else t.l c := by
    funext c
    by_cases h : c = k
    · subst h
      rw [if_pos rfl, if_pos (by omega), hv]
    · rw [if_neg h]
      by_cases h2 : c < k
      · rw [if_pos h2, if_pos (by omega)]
      · rw [if_neg h2, if_neg (by omega)]
  show Tab.mk t.u (fun c => if c = k then v else if c < k then min (max (t.l c) 0 + max (m.tmod 4) 0) 8 else t.l c) t.b t.d = Tab.mk t.u (fun c => if c < k + 1 then min (max (t.l c) 0 + max (m.tmod 4) 0) 8 else t.l c) t.b t.d
  rw [e]
theorem tmod4 (m : Int) : -3 ≤ m.tmod 4 ∧ m.tmod 4 ≤ 3 := by
  rcases Int.le_total 0 m with h | h
  · rw [Int.tmod_eq_emod_of_nonneg h]; omega
  · have e : m.tmod 4 = -((-m).tmod 4) := by rw [Int.neg_tmod]; omega
    rw [e, Int.tmod_eq_emod_of_nonneg (by omega)]; omega
theorem la_val {l x : Int} (hx : -3 ≤ x ∧ x ≤ 3) (h1 : 1 ≤ l) (h2 : l ≤ 8) : (if 8 < wrap64 ((if l < 0 then 0 else l) + if x < 0 then 0 else x) then 8 else wrap64 ((if l < 0 then 0 else l) + if x < 0 then 0 else x)) = min (max l 0 + max x 0) 8 := by
  rw [if_neg (show ¬ l < 0 by omega)]
  by_cases h : x < 0
  · rw [if_pos h, show wrap64 (l + 0) = l by unfold wrap64; omega]
    split <;> omega
  · rw [if_neg h, show wrap64 (l + x) = l + x by unfold wrap64; omega]
    split <;> omega
set_option maxHeartbeats 8000000 in
theorem later_main (ao : Option Addr) (cap : Nat) (xs : List O) (t : Tab) (m : Int) (w : World) (h : OpsAt w ao xs) (hcap : xs.length ≤ cap) (hG : Bnds w) (hn : xs.length ≤ 200) :
    Calls Tryd.prog 5 #[.slice ao xs.length cap, t.val, .int .i64 m] w fun e w' => e = .returned (.bool true) ∧ Below w.heap.size w w' := by
  have HW : Hid (∀ W, Below w.heap.size w W → Calls Tryd.prog 14 #[] W fun e w' => e = .returned (.bool true) ∧ Below W.heap.size W w') := fun W hb => wakes_any W (hG.below hb hG.big)
  have HLp : Hid (∀ u W, Below w.heap.size w W → Calls Tryd.prog 11 #[.slice ao xs.length cap, Tab.val u] W (EdOut W (lisE u xs) (erE u xs (loopE u xs)))) := fun u W hb => loop_any ao cap xs u W (h.below hb) hcap (hG.below hb hG.big)
  have HS : Hid (Lw w ((w.alloc (.cells t.cells 25)).alloc (.cells t.cells 25)) t t) := Lw.start w t _ _ rfl rfl
  have hi : ¬ (200 : Int) < (xs.length : Int) := by omega
  have hi' : (xs.length : Int) ≤ 200 := by omega
  clear h hcap hG hn
  unfold Tab.val at HLp ⊢
  go_enter Tryd.func5, Tryd.ntmps5
  go_upto_region 4 with fail
  generalize (w.alloc (.cells t.cells 25)).alloc (.cells t.cells 25) = W0 at *
  go_wp2_with fail
  go_loopw [19] (fun i wr => ∃ (k : Nat) (u : Tab), k ≤ 4 ∧ i = .int .i64 k ∧ Lw w wr t u ∧ (t.ok = true → u = laTo t m k)) (fun i _ => 4 - (intOf i).toNat)
  case atStart => exact ⟨0, t, by omega, rfl, HS.out, fun _ => (laTo_zero t m).symm⟩
  case round =>
    rename World => wr
    obtain ⟨k, u, hk, rfl, hl, hu⟩ := hrel
    have HL : Hid (Lw w wr t u) := hl
    have HU : Hid (t.ok = true → u = laTo t m k) := hu
    clear hl hu HS
    by_cases hlt : k < 4
    · have k0 : (0 : Int) ≤ (k : Int) := by omega
      have k1 : (k : Int) < 4 := by omega
      have cl := HL.out.b.cl k hlt
      have bl := HL.out.b.lt
      have bf := HL.out.f (4 + k)
      go_wp2_with fail
      go_roundw
      case rel =>
        refine ⟨k + 1, _, by omega, by go_num, HL.out.set hlt _, fun ht => ?_⟩
        have e := HU.out ht
        subst e
        refine laTo_next t m hlt ?_
        have hc := Tb.inB_iff ((Tb.ok_parts ht).2 k hlt).2.1
        have e2 : (laTo t m k).l k = t.l k := by show (if k < k then _ else _) = _; rw [if_neg (by omega)]
        rw [e2]
        exact la_val (tmod4 m) hc.1 hc.2
      case measure => simp [intOf]; omega
    · obtain rfl : k = 4 := by omega
      obtain ⟨k1, k2, k3⟩ := (⟨HL.out.a, HL.out.b, HL.out.up⟩ : TabAt wr w.heap.size t ∧ TabAt wr (w.heap.size + 1) u ∧ Below w.heap.size w wr)
      have tu0 := k1.cu 0 (by decide); have tu1 := k1.cu 1 (by decide); have tu2 := k1.cu 2 (by decide); have tu3 := k1.cu 3 (by decide); have tl0 := k1.cl 0 (by decide); have tl1 := k1.cl 1 (by decide); have tl2 := k1.cl 2 (by decide); have tl3 := k1.cl 3 (by decide); have tb0 := k1.cb 0 (by decide); have tb1 := k1.cb 1 (by decide); have tb2 := k1.cb 2 (by decide); have tb3 := k1.cb 3 (by decide); have td := k1.cd; have tz := k1.lt
      have su0 := k2.cu 0 (by decide); have su1 := k2.cu 1 (by decide); have su2 := k2.cu 2 (by decide); have su3 := k2.cu 3 (by decide); have sl0 := k2.cl 0 (by decide); have sl1 := k2.cl 1 (by decide); have sl2 := k2.cl 2 (by decide); have sl3 := k2.cl 3 (by decide); have sb0 := k2.cb 0 (by decide); have sb1 := k2.cb 1 (by decide); have sb2 := k2.cb 2 (by decide); have sb3 := k2.cb 3 (by decide); have sd := k2.cd; have sz := k2.lt
      clear k1 k2 k3
      have hee : lisE t xs = 0 ∨ ¬ lisE t xs = 0 := by omega
      have hef : lisE u xs = 0 ∨ ¬ lisE u xs = 0 := by omega
      have H1 : Hid (∀ W, Below w.heap.size w W → Calls Tryd.prog 11 #[.slice ao xs.length cap, .agg #[.int .i64 (t.u 0), .int .i64 (t.u 1), .int .i64 (t.u 2), .int .i64 (t.u 3), .int .i64 (t.l 0), .int .i64 (t.l 1), .int .i64 (t.l 2), .int .i64 (t.l 3), .int .i64 (t.b 0), .int .i64 (t.b 1), .int .i64 (t.b 2), .int .i64 (t.b 3), .int .i64 t.d]] W (EdOut W (lisE t xs) (erE t xs (loopE t xs)))) := HLp.out t
      have H2 : Hid (∀ W, Below w.heap.size w W → Calls Tryd.prog 11 #[.slice ao xs.length cap, .agg #[.int .i64 (u.u 0), .int .i64 (u.u 1), .int .i64 (u.u 2), .int .i64 (u.u 3), .int .i64 (u.l 0), .int .i64 (u.l 1), .int .i64 (u.l 2), .int .i64 (u.l 3), .int .i64 (u.b 0), .int .i64 (u.b 1), .int .i64 (u.b 2), .int .i64 (u.b 3), .int .i64 u.d]] W (EdOut W (lisE u xs) (erE u xs (loopE u xs)))) := HLp.out u
      have HA : Hid (lisE t xs = 0 → lisE u xs = 0 → All2 Lat (erE t xs (loopE t xs)) (erE u xs (loopE u xs))) := fun h1 h2 => by
        have ht := (lis_all h1).1
        unfold erE
        rw [if_pos h1, if_pos h2, HU.out ht]
        exact loop_lat t m ht xs
      have HN : Hid ((erE u xs (loopE u xs)).length ≤ 100000000) := erE_len u xs (by omega)
      clear HLp HU
      generalize hE : erE t xs (loopE t xs) = es at *
      generalize hF : erE u xs (loopE u xs) = fs at *
      generalize lisE t xs = et at *
      generalize lisE u xs = eu at *
      clear hE hF
      go_upto_region 11 with (first
        | (go_at_call 11; refine Calls.mono (H1.out _ HL.out.up) ?_; rintro e w1 ⟨a1, c1, rfl, o1, b1⟩; have HL1 : Hid (Lw w w1 t u ∧ EOwn wr.heap.size w1 a1 c1 es) := ⟨HL.out.next b1, o1⟩; clear o1 b1 H1 HL tu0 tu1 tu2 tu3 tl0 tl1 tl2 tl3 tb0 tb1 tb2 tb3 td tz su0 su1 su2 su3 sl0 sl1 sl2 sl3 sb0 sb1 sb2 sb3 sd sz; have k2 := HL1.out.1.b; have su0 := k2.cu 0 (by decide); have su1 := k2.cu 1 (by decide); have su2 := k2.cu 2 (by decide); have su3 := k2.cu 3 (by decide); have sl0 := k2.cl 0 (by decide); have sl1 := k2.cl 1 (by decide); have sl2 := k2.cl 2 (by decide); have sl3 := k2.cl 3 (by decide); have sb0 := k2.cb 0 (by decide); have sb1 := k2.cb 1 (by decide); have sb2 := k2.cb 2 (by decide); have sb3 := k2.cb 3 (by decide); have sd := k2.cd; have sz := k2.lt; clear k2)
        | (go_at_call 11; refine Calls.mono (H2.out _ HL1.out.1.up) ?_; rintro e w2 ⟨a2, c2, rfl, o2, b2⟩; have HL2 : Hid (Below w.heap.size w w2 ∧ EOwn wr.heap.size w2 a1 c1 es ∧ EOwn w1.heap.size w2 a2 c2 fs) := ⟨HL1.out.1.up.trans (b2.mono HL1.out.1.up.size), HL1.out.2.up b2, o2⟩; clear o2 b2 H2 HL1 su0 su1 su2 su3 sl0 sl1 sl2 sl3 sb0 sb1 sb2 sb3 sd sz))
      rcases hee with he | he
      · rcases hef with hf | hf
        · have HA2 : Hid (All2 Lat es fs) := HA.out he hf
          have hlen : es.length = fs.length := HA2.out.len
          subst he
          subst hf
          have HE : Hid (∀ k, k < fs.length → ∃ b1 b2 x y z d e z', a1 = some ⟨b1, 0, none⟩ ∧ a2 = some ⟨b2, 0, none⟩ ∧ b1 < w2.heap.size ∧ b2 < w2.heap.size ∧ (w2.cell? ⟨b1, k * 5, none⟩ = some (.int .i64 x) ∧ w2.cell? ⟨b1, k * 5 + 1, none⟩ = some (.int .i64 y) ∧ w2.cell? ⟨b1, k * 5 + 2, none⟩ = some (.int .i64 z) ∧ w2.cell? ⟨b1, k * 5 + 3, none⟩ = some (.int .i64 d) ∧ w2.cell? ⟨b1, k * 5 + 4, none⟩ = some (.int .i8 e)) ∧ (w2.cell? ⟨b2, k * 5, none⟩ = some (.int .i64 x) ∧ w2.cell? ⟨b2, k * 5 + 1, none⟩ = some (.int .i64 y) ∧ w2.cell? ⟨b2, k * 5 + 2, none⟩ = some (.int .i64 z') ∧ w2.cell? ⟨b2, k * 5 + 3, none⟩ = some (.int .i64 d) ∧ w2.cell? ⟨b2, k * 5 + 4, none⟩ = some (.int .i8 e)) ∧ (e = 2 ∨ z ≤ z')) := fun k hk => by
            obtain ⟨b1, e1, l1, -, f0, f1, f2, f3, f4⟩ := eOwn_at HL2.out.2.1 (k := k) (by omega)
            obtain ⟨b2, e2, l2, -, g0, g1, g2, g3, g4⟩ := eOwn_at HL2.out.2.2 (k := k) hk
            obtain ⟨r1, r2, r3, r4, r5⟩ := HA2.out.at k (by omega) hk
            exact ⟨b1, b2, _, _, _, _, _, _, e1, e2, l1, l2, ⟨f0, f1, f2, f3, f4⟩, ⟨by rw [r1]; exact g0, by rw [r2]; exact g1, g2, by rw [r3]; exact g3, by rw [r4]; exact g4⟩, r5⟩
          have HB : Hid (Below w.heap.size w w2) := HL2.out.1
          clear HL2 HA2 HA
          rw [hlen]
          clear hlen
          have hNl : (fs.length : Int) ≤ 100000000 := by have := HN.out; omega
          clear HN
          generalize fs.length = N at *
          go_wp2_with fail
          go_loopw [62] (fun i wr => ∃ (k q : Nat), k ≤ N ∧ i = .int .i64 k ∧ wr = w2.drewN q) (fun i _ => N - (intOf i).toNat)
          case atStart => exact ⟨0, 0, by omega, rfl, rfl⟩
          case round =>
            rename World => wy
            obtain ⟨k, q, hk, rfl, rfl⟩ := hrel
            by_cases hlt : k < N
            · have j0 : (0 : Int) ≤ (k : Int) := by omega
              have j1 : (k : Int) < (N : Int) := by omega
              obtain ⟨b1, b2, x, y, z, d, e, z', rfl, rfl, l1, l2, ⟨f0, f1, f2, f3, f4⟩, ⟨g0, g1, g2, g3, g4⟩, hz⟩ := HE.out k hlt
              clear HE
              have f0 : (w2.drewN q).cell? _ = _ := f0
              have f1 : (w2.drewN q).cell? _ = _ := f1
              have f2 : (w2.drewN q).cell? _ = _ := f2
              have f3 : (w2.drewN q).cell? _ = _ := f3
              have f4 : (w2.drewN q).cell? _ = _ := f4
              have g0 : (w2.drewN q).cell? _ = _ := g0
              have g1 : (w2.drewN q).cell? _ = _ := g1
              have g2 : (w2.drewN q).cell? _ = _ := g2
              have g3 : (w2.drewN q).cell? _ = _ := g3
              have g4 : (w2.drewN q).cell? _ = _ := g4
              have l1 : b1 < (w2.drewN q).heap.size := l1
              have l2 : b2 < (w2.drewN q).heap.size := l2
              generalize hWq : w2.drewN q = W at *
              by_cases he : e = 2
              · subst he
                go_wp2_with fail
                go_quiet (fail)
                go_wp2_with fail
                go_roundw
                case rel => exact ⟨k + 1, q + nq, by omega, by go_num, by rw [← hWq]; simp⟩
                case measure => simp [intOf]; omega
              · have hz' : ¬ z' < z := by omega
                clear hz
                go_wp2_with fail
                go_quiet (fail)
                go_wp2_with fail
                go_roundw
                case rel => exact ⟨k + 1, q + nq, by omega, by go_num, by rw [← hWq]; simp⟩
                case measure => simp [intOf]; omega
            · have j1 : ¬ (k : Int) < (N : Int) := by omega
              have HBq : Hid (Below w.heap.size w (w2.drewN q)) := ⟨HB.out.os, HB.out.tape, HB.out.output, HB.out.size, HB.out.block⟩
              go_wp2_with (first | (go_at_call 14; refine Calls.mono (HW.out _ HBq.out) ?_; rintro e w3 ⟨rfl, hb⟩; have HB3 : Hid (Below w.heap.size w w3) := HBq.out.trans (hb.mono HBq.out.size); clear hb HW))
              go_ret
              exact ⟨rfl, HB3.out⟩
        · subst he
          go_wp2_with (first | (go_at_call 14; refine Calls.mono (HW.out _ HL2.out.1) ?_; rintro e w3 ⟨rfl, hb⟩; have HB3 : Hid (Below w.heap.size w w3) := HL2.out.1.trans (hb.mono HL2.out.1.size); clear hb HW))
          go_ret
          exact ⟨rfl, HB3.out⟩
      · go_wp2_with (first | (go_at_call 14; refine Calls.mono (HW.out _ HL2.out.1) ?_; rintro e w3 ⟨rfl, hb⟩; have HB3 : Hid (Below w.heap.size w w3) := HL2.out.1.trans (hb.mono HL2.out.1.size); clear hb HW))
        go_ret
        exact ⟨rfl, HB3.out⟩
theorem law_later (ao : Option Addr) (cap : Nat) (xs : List O) (t : Tab) (m : Int) (w : World) (h : OpsAt w ao xs) (hcap : xs.length ≤ cap) (hG : Bnds w) :
    Calls Tryd.prog 5 #[.slice ao xs.length cap, t.val, .int .i64 m] w fun e w' => e = .returned (.bool true) ∧ Below w.heap.size w w' := by
  by_cases hn : xs.length ≤ 200
  · exact later_main ao cap xs t m w h hcap hG hn
  · have HW : Hid (∀ W, Below w.heap.size w W → Calls Tryd.prog 14 #[] W fun e w' => e = .returned (.bool true) ∧ Below W.heap.size W w') := fun W hb => wakes_any W (hG.below hb hG.big)
    have hi : (200 : Int) < (xs.length : Int) := by omega
    clear h hcap hG hn
    unfold Tab.val
    go_enter Tryd.func5, Tryd.ntmps5
    go_wp2_with (first | (go_at_call 14; refine Calls.mono (HW.out _ (by go_grown)) ?_; rintro e w3 ⟨rfl, hb⟩; have HB3 : Hid (Below w.heap.size w w3) := Below.trans (by go_grown) (hb.mono (by simp)); clear hb HW))
    go_ret
    exact ⟨rfl, HB3.out⟩
end Go.Proofs.YtccakjijoadjkaaDoor.Dp
