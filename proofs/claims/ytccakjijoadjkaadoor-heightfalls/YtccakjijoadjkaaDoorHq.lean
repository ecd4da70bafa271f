/- The statement HeightBound: out of what the callees answer. Conditions: the lists lie in memory, the variables as the program lays them. -/
import Derived.Test.YtccakjijoadjkaaDoorHp
namespace Go.Proofs.YtccakjijoadjkaaDoor.Dp
open Go.ChangeShapes Go.WideShapes Go.ChangeAt Go.RowKit
open _root_.Go.Proofs.YtccakjijoadjkaaDoor.Op _root_.Go.Proofs.YtccakjijoadjkaaDoor.So
open _root_.Go.Proofs.YtccakjijoadjkaaDoor.Tb (Tab TabAt Bnds)
set_option maxRecDepth 20000

/-- Cycles, in memory. -/
structure Cy (w : World) (a : Option Addr) (l : List Int) : Prop where
  is : 0 < l.length → ∃ b f, a = some ⟨b, f, none⟩ ∧ b < w.heap.size ∧ ∀ (i : Nat) (h : i < l.length), w.cell? ⟨b, f + i, none⟩ = some (.int .i64 l[i])
def cyc (l : List Int) (i : Nat) : Int := l.getD i 0
theorem Cy.row {w : World} {a : Option Addr} {l : List Int} (h : Cy w a l) (h0 : 0 < l.length) : ∃ b f, a = some ⟨b, f, none⟩ ∧ ∀ W, Below w.heap.size w W → b < W.heap.size ∧ ∀ i, i < l.length → W.cell? ⟨b, f + i, none⟩ = some (.int .i64 (cyc l i)) := by
  obtain ⟨b, f, e, z, hc⟩ := h.is h0
  refine ⟨b, f, e, fun W g => ⟨Nat.lt_of_lt_of_le z g.size, fun i hi => ?_⟩⟩
  rw [(bcell g).1 _ _ z, hc i hi]
  unfold cyc
  simp [List.getD, List.getElem?_eq_getElem hi]
theorem clV_ok (t : Tab) {o : O} (h : okL o = true) : ∃ c : Nat, c < 4 ∧ clV o.op = (c : Int) ∧ latV t o.op = t.l c := by
  have h0 := latV_class t h
  simp only [okL, Bool.and_eq_true, decide_eq_true_eq] at h
  obtain ⟨⟨h1, h2⟩, h3⟩ := h
  obtain ⟨n, hn⟩ : ∃ n : Nat, o.op = n := ⟨o.op.toNat, by omega⟩
  have key : 0 ≤ clV o.op ∧ clV o.op < 4 := by
    unfold clV
    cases hk : kOf o.op with
    | none => rw [okO_none hk] at h3; cases h3
    | some k =>
      have hk2 := hk
      unfold kOf at hk2
      rw [if_pos (by omega), hn, Int.toNat_natCast] at hk2
      have hc := cls_all17 n (by omega) (by omega) k hk2
      show 0 ≤ (if k.cls == -1 then (0 : Int) else k.cls) ∧ (if k.cls == -1 then (0 : Int) else k.cls) < 4
      rw [hc]
      by_cases c1 : 15 ≤ n
      · rw [if_pos c1]; decide
      · rw [if_neg c1]
        by_cases c2 : 12 ≤ n
        · rw [if_pos c2]; decide
        · rw [if_neg c2]; decide
  exact ⟨(clV o.op).toNat, by omega, by omega, h0⟩
/-- What lies in memory under way. -/
structure Bs (w W : World) (t : Tab) (hb n : Nat) (H : Nat → Int) (B : Nat) (a : Option Addr) (c : Nat) (es : List Ed) : Prop where
  t : TabAt W w.heap.size t
  ir : Ir W hb n H
  es : EOwn B W a c es
  up : Below w.heap.size w W
theorem Bs.next {w W W' : World} {t : Tab} {hb n : Nat} {H : Nat → Int} {B : Nat} {a : Option Addr} {c : Nat} {es : List Ed} (s : Bs w W t hb n H B a c es) (g : Below W.heap.size W W') : Bs w W' t hb n H B a c es :=
  ⟨s.t.below g s.t.lt, s.ir.up g, s.es.up g, s.up.trans (g.mono s.up.size)⟩
theorem Bs.drewN {w W : World} {t : Tab} {hb n : Nat} {H : Nat → Int} {B : Nat} {a : Option Addr} {c : Nat} {es : List Ed} (s : Bs w W t hb n H B a c es) (q : Nat) : Below w.heap.size w (W.drewN q) := ⟨s.up.os, s.up.tape, s.up.output, s.up.size, s.up.block⟩
/-- The cycles so far are in their bounds, and all is over at the last one. -/
def Upto (t : Tab) (xs : List O) (ls : List Int) (k : Nat) (last : Int) : Prop := 0 ≤ last ∧ last ≤ 65544 ∧ ∀ j, j < k → 0 ≤ cyc ls j ∧ cyc ls j ≤ 65536 ∧ cyc ls j + latN t xs j ≤ last
theorem Upto.next {t : Tab} {xs : List O} {ls : List Int} {k : Nat} {last v l : Int} (h : Upto t xs ls k last) (hv : cyc ls k = v) (hl : latN t xs k = l) (v0 : 0 ≤ v) (v1 : v ≤ 65536) (l0 : 1 ≤ l ∧ l ≤ 8) {m : Int} (hm : m = max last (v + l)) : Upto t xs ls (k + 1) m := by
  obtain ⟨h1, h2, h3⟩ := h
  refine ⟨by omega, by omega, fun j hj => ?_⟩
  by_cases e : j = k
  · subst e
    rw [hv, hl]; omega
  · have := h3 j (by omega)
    omega
set_option maxHeartbeats 16000000 in
theorem bound_main (ao la : Option Addr) (cap lc : Nat) (xs : List O) (ls : List Int) (t : Tab) (w : World) (h : OpsAt w ao xs) (hcap : xs.length ≤ cap) (hy : Cy w la ls) (hlen : ls.length = xs.length) (hG : Bnds w) (hn : xs.length ≤ 200) (he : lisE t xs = 0) :
    Calls Tryd.prog 8 #[.slice ao xs.length cap, t.val, .slice la xs.length lc] w fun e w' => e = .returned (.bool true) ∧ Below w.heap.size w w' := by
  obtain ⟨ht, -, hok⟩ := lis_all he
  have HW : Hid (∀ W, Below w.heap.size w W → Calls Tryd.prog 19 #[] W fun e w' => e = .returned (.bool true) ∧ Below W.heap.size W w') := fun W hb => wakes12_any W (hG.below hb hG.big)
  have HCk : Hid (∀ W, Below w.heap.size w W → Calls Tryd.prog 28 #[t.val] W fun e w' => e = .returned (.int .i64 0) ∧ Below W.heap.size W w') := fun W hb => by
    have := check_any' t W (hG.below hb hG.big)
    rw [show Tb.ckR t = 0 by unfold Tb.ckR; rw [if_pos ht]] at this
    exact this
  have HEO : Hid (EOk xs.length (ofE t xs)) := ofE_ok t xs (pts_ok t xs (fun o ho => ⟨h.ok o ho, okL_okO (hok o ho)⟩) ht)
  have HTs : Hid (Hts xs.length (latN t xs) (ofE t xs) (hts (latN t xs) (ofE t xs))) := hts_is HEO.out
  have HLn : Hid ((ofE t xs).length ≤ 100000000) := Nat.le_trans (withinE_len _ _ _ (by omega)) (by omega)
  have HOf : Hid (∀ W, Below w.heap.size w W → Calls Tryd.prog 9 #[.slice ao xs.length cap, t.val] W (EdOut W 0 (ofE t xs))) := fun W hb => by
    have := of_any ao cap xs t W (h.below hb) hcap (hG.below hb hG.big)
    unfold erE at this
    rw [if_pos he, he] at this
    exact this
  have HHo : Hid (∀ W, Below w.heap.size w W → Calls Tryd.prog 21 #[.slice ao xs.length cap, t.val] W fun e w' => ∃ hb, e = .returned (.tuple #[.slice (some ⟨hb, 0, none⟩) xs.length xs.length, .int .i64 0]) ∧ Ir w' hb xs.length (hts (latN t xs) (ofE t xs)) ∧ W.heap.size ≤ hb ∧ Below W.heap.size W w') := fun W hb => hof_ok ao cap xs t W (h.below hb) hcap (hG.below hb hG.big) he
  have HLi : Hid (∀ i, i < xs.length → 1 ≤ latN t xs i ∧ latN t xs i ≤ 8) := fun i hi => by rw [latN_at t hi]; exact latV_in ht _
  have HLe : Hid (∀ i, i < xs.length → 1 ≤ hts (latN t xs) (ofE t xs) i ∧ hts (latN t xs) (ofE t xs) i ≤ 8 * (xs.length - i : Nat)) := HTs.out.le HEO.out HLi.out
  have HCl : Hid (∀ k (hk : k < xs.length), ∃ c : Nat, ∃ bb : Bool, c < 4 ∧ t.l c = latN t xs k ∧ ∀ W, Calls Tryd.prog 27 #[.int .i8 xs[k].op] W fun e w' => e = .returned (.tuple #[.int .i64 (c : Int), .bool bb]) ∧ Below W.heap.size W w') := fun k hk => by
    obtain ⟨c, c1, c2, c3⟩ := clV_ok t (hok _ (List.getElem_mem hk))
    have ho := h.ok _ (List.getElem_mem hk)
    refine ⟨c, clB xs[k].op, c1, by rw [latN_at t hk, c3], fun W => ?_⟩
    rw [← c2]
    exact class_any _ W ho.op0 ho.op1
  have HY : Hid (0 < xs.length → ∃ b f, la = some ⟨b, f, none⟩ ∧ ∀ W, Below w.heap.size w W → b < W.heap.size ∧ ∀ i, i < xs.length → W.cell? ⟨b, f + i, none⟩ = some (.int .i64 (cyc ls i))) := fun h0 => by rw [← hlen] at h0 ⊢; exact hy.row h0
  have HO : Hid (OpsAt w ao xs) := h
  have hn' : (xs.length : Int) ≤ 200 := by omega
  have hn2 : ¬ (200 : Int) < (xs.length : Int) := by omega
  clear h hcap hG hok he ht hy hlen
  obtain ⟨es, hes⟩ : ∃ es, ofE t xs = es := ⟨_, rfl⟩
  rw [hes] at HOf HEO HLn HTs HHo HLe
  clear hes
  obtain ⟨H, hH⟩ : ∃ H, hts (latN t xs) es = H := ⟨_, rfl⟩
  rw [hH] at HTs HHo HLe
  clear hH
  obtain ⟨N, hN⟩ : ∃ N, es.length = N := ⟨_, rfl⟩
  have HNl : Hid (es.length = N) := hN
  have hNb : (N : Int) ≤ 100000000 := by have := HLn.out; omega
  clear HLn hN
  have HOf2 : Hid (∀ W, Below w.heap.size w W → Calls Tryd.prog 9 #[.slice ao xs.length cap, t.val] W fun e w' => ∃ a c, e = .returned (.tuple #[.slice a N c, .int .i64 0]) ∧ EOwn W.heap.size w' a c es ∧ Below W.heap.size W w') := fun W hb => by
    have := HOf.out W hb
    rw [← HNl.out]; exact this
  clear HOf
  unfold Tab.val at *
  go_enter Tryd.func8, Tryd.ntmps8
  go_upto_region 5 with (first
    | (go_at_call 28; refine Calls.mono (HCk.out _ (by go_grown)) ?_; rintro e w0 ⟨rfl, b0⟩; have HT0 : Hid (Tc w w0 t) := Tc.start w t rfl b0; clear b0 HCk; have k2 := HT0.out.t; have tu0 := k2.cu 0 (by decide); have tu1 := k2.cu 1 (by decide); have tu2 := k2.cu 2 (by decide); have tu3 := k2.cu 3 (by decide); have tl0 := k2.cl 0 (by decide); have tl1 := k2.cl 1 (by decide); have tl2 := k2.cl 2 (by decide); have tl3 := k2.cl 3 (by decide); have tb0 := k2.cb 0 (by decide); have tb1 := k2.cb 1 (by decide); have tb2 := k2.cb 2 (by decide); have tb3 := k2.cb 3 (by decide); have td := k2.cd; have tz := k2.lt; clear k2)
    | (go_at_call 9; refine Calls.mono (HOf2.out _ HT0.out.up) ?_; rintro e w1 ⟨a1, c1, rfl, o1, b1⟩; have HT1 : Hid (Tc w w1 t ∧ EOwn w0.heap.size w1 a1 c1 es) := ⟨⟨HT0.out.t.below b1 HT0.out.t.lt, HT0.out.up.trans (b1.mono HT0.out.up.size)⟩, o1⟩; clear o1 b1 HOf2 HT0 tu0 tu1 tu2 tu3 tl0 tl1 tl2 tl3 tb0 tb1 tb2 tb3 td tz; have k2 := HT1.out.1.t; have tu0 := k2.cu 0 (by decide); have tu1 := k2.cu 1 (by decide); have tu2 := k2.cu 2 (by decide); have tu3 := k2.cu 3 (by decide); have tl0 := k2.cl 0 (by decide); have tl1 := k2.cl 1 (by decide); have tl2 := k2.cl 2 (by decide); have tl3 := k2.cl 3 (by decide); have tb0 := k2.cb 0 (by decide); have tb1 := k2.cb 1 (by decide); have tb2 := k2.cb 2 (by decide); have tb3 := k2.cb 3 (by decide); have td := k2.cd; have tz := k2.lt; clear k2)
    | (go_at_call 21; refine Calls.mono (HHo.out _ HT1.out.1.up) ?_; rintro e w2 ⟨hb, rfl, i2, -, b2⟩; have HB : Hid (Bs w w2 t hb xs.length H w0.heap.size a1 c1 es) := ⟨HT1.out.1.t.below b2 HT1.out.1.t.lt, i2, HT1.out.2.up b2, HT1.out.1.up.trans (b2.mono HT1.out.1.up.size)⟩; clear i2 b2 HHo HT1 tu0 tu1 tu2 tu3 tl0 tl1 tl2 tl3 tb0 tb1 tb2 tb3 td tz))
  generalize w0.heap.size = B at *
  go_wp2_with fail
  go_loopw [11, 12] (fun l v wr => ∃ (k : Nat) (last : Int), k ≤ xs.length ∧ l = .int .i64 last ∧ v = .int .i64 k ∧ Bs w wr t hb xs.length H B a1 c1 es ∧ Upto t xs ls k last) (fun _ v _ => xs.length - (intOf v).toNat)
  case atStart => exact ⟨0, 0, by omega, rfl, rfl, HB.out, by omega, by omega, fun j hj => by omega⟩
  case round =>
    rename World => wr
    obtain ⟨k, last, hk, rfl, rfl, hs, hu⟩ := hrel
    have HQ : Hid (Bs w wr t hb xs.length H B a1 c1 es) := hs
    have HU : Hid (Upto t xs ls k last) := hu
    have u0 := hu.1
    have u1 := hu.2.1
    clear hs hu HB
    by_cases hlt : k < xs.length
    · have k0 : (0 : Int) ≤ (k : Int) := by omega
      have k1 : (k : Int) < (xs.length : Int) := by omega
      obtain ⟨b, f, rfl, hz2, hx⟩ := (HO.out.below HQ.out.up).is (by omega)
      obtain ⟨q0, -, -, -, -⟩ := hx k hlt
      obtain ⟨cb, cf, rfl, hcy⟩ := HY.out (by omega)
      have HY2 : Hid (∀ W, Below w.heap.size w W → cb < W.heap.size ∧ W.cell? ⟨cb, cf + k, none⟩ = some (.int .i64 (cyc ls k))) := fun W g => ⟨(hcy W g).1, (hcy W g).2 k hlt⟩
      obtain ⟨c, bb, hc4, hcl, hC⟩ := HCl.out k hlt
      have c0 : (0 : Int) ≤ (c : Int) := by omega
      have c1' : (c : Int) < 4 := by omega
      have HC1 : Hid (∀ W, Calls Tryd.prog 27 #[.int .i8 xs[k].op] W fun e w' => e = .returned (.tuple #[.int .i64 (c : Int), .bool bb]) ∧ Below W.heap.size W w') := hC
      have HLk : Hid (latN t xs k = t.l c ∧ (1 ≤ t.l c ∧ t.l c ≤ 8)) := ⟨hcl.symm, by rw [hcl]; exact HLi.out k hlt⟩
      obtain ⟨y0, y1⟩ := HLk.out.2
      clear hx hcy hC hcl HCl HO HLe HTs HEO HLi HNl
      generalize xs[k] = o at *
      go_upto_region 12 with (first
        | (go_at_call 27; refine Calls.mono (HC1.out _) ?_; rintro e w3 ⟨rfl, b3⟩; have HQ3 : Hid (Bs w w3 t hb xs.length H B a1 c1 es) := HQ.out.next b3; clear b3 HC1 HQ q0 hz2))
      have cc := (HY2.out _ HQ3.out.up).2
      have cl := (HY2.out _ HQ3.out.up).1
      have tc := HQ3.out.t.cl c hc4
      have tz := HQ3.out.t.lt
      have HV : Hid (∃ v, cyc ls k = v) := ⟨_, rfl⟩
      obtain ⟨v, hv⟩ := HV.out
      have HVk : Hid (cyc ls k = v) := hv
      rw [hv] at cc
      clear HV hv HY2 HY
      by_cases m1 : v < 0
      · go_wp2_with (first | (go_at_call 19; refine Calls.mono (HW.out _ HQ3.out.up) ?_; rintro e wv ⟨rfl, bv⟩; have HV9 : Hid (Below w.heap.size w wv) := (HQ3.out.up).trans (bv.mono (HQ3.out.up).size); clear bv HW))
        go_ret
        exact ⟨rfl, HV9.out⟩
      · by_cases m2 : 65536 < v
        · go_wp2_with (first | (go_at_call 19; refine Calls.mono (HW.out _ HQ3.out.up) ?_; rintro e wv ⟨rfl, bv⟩; have HV9 : Hid (Below w.heap.size w wv) := (HQ3.out.up).trans (bv.mono (HQ3.out.up).size); clear bv HW))
          go_ret
          exact ⟨rfl, HV9.out⟩
        · have HN1 : Hid (∀ m, m = max last (v + t.l c) → Upto t xs ls (k + 1) m) := fun m hm => HU.out.next HVk.out HLk.out.1 (by omega) (by omega) HLk.out.2 hm
          have HD : Hid (Bs w w3.drew t hb xs.length H B a1 c1 es) := HQ3.out.next ((Below.refl _ _).drew)
          generalize t.l c = lv at *
          clear HU HVk HLk
          go_upto_region 14 with fail
          by_cases mx : last < v + lv
          · have HE : Hid (v + lv = max last (v + lv)) := by show v + lv = max last (v + lv); omega
            go_region
            all_goals
              go_wp2_with fail
              go_roundw
              case rel => exact ⟨k + 1, v + lv, by omega, by first | rfl | go_num, by go_num, HD.out, HN1.out _ HE.out⟩
              case measure => simp [intOf]; omega
          · have HE : Hid (last = max last (v + lv)) := by show last = max last (v + lv); omega
            go_region
            all_goals
              go_wp2_with fail
              go_roundw
              case rel => exact ⟨k + 1, last, by omega, by first | rfl | go_num, by go_num, HD.out, HN1.out _ HE.out⟩
              case measure => simp [intOf]; omega
    · obtain rfl : k = xs.length := by omega
      have k1 : ¬ (xs.length : Int) < (xs.length : Int) := by omega
      go_upto_region 16 with fail
      go_loopw [15] (fun v wz => ∃ (k q : Nat), k ≤ N ∧ v = .int .i64 k ∧ wz = wr.drewN q ∧ ∀ j (hj : j < es.length), j < k → cyc ls es[j].f.toNat + es[j].l ≤ cyc ls es[j].t.toNat) (fun v _ => N - (intOf v).toNat)
      case atStart => exact ⟨0, 0, by omega, rfl, rfl, fun j hj h => by omega⟩
      case round =>
        rename World => wz
        obtain ⟨k, q, hk, rfl, rfl, hes⟩ := hrel
        have HS : Hid (∀ j (hj : j < es.length), j < k → cyc ls es[j].f.toNat + es[j].l ≤ cyc ls es[j].t.toNat) := hes
        clear hes
        have HBq : Hid (Below w.heap.size w (wr.drewN q)) := HQ.out.drewN q
        by_cases hkl : k < N
        · have j0 : (0 : Int) ≤ (k : Int) := by omega
          have j1 : (k : Int) < (N : Int) := by omega
          have hke : k < es.length := by rw [HNl.out]; exact hkl
          have hm := List.getElem_mem hke
          have g1 := HEO.out.f0 _ hm
          have g2 := HEO.out.ft _ hm
          have g3 := HEO.out.tn _ hm
          obtain ⟨g4, g5⟩ := HEO.out.l0 _ hm
          obtain ⟨eb, rfl, l1, -, f0, f1, f2, -, -⟩ := eOwn_at HQ.out.es hke
          obtain ⟨cb, cf, rfl, hcy⟩ := HY.out (by omega)
          obtain ⟨cl, hcy⟩ := hcy _ HQ.out.up
          have HS2 : Hid (cyc ls es[k].f.toNat + es[k].l ≤ cyc ls es[k].t.toNat → ∀ j (hj : j < es.length), j < k + 1 → cyc ls es[j].f.toNat + es[j].l ≤ cyc ls es[j].t.toNat) := fun hh j hj h => by
            by_cases e : j = k
            · subst e; exact hh
            · exact HS.out j hj (by omega)
          obtain ⟨r1, r2, -⟩ := HU.out.2.2 es[k].f.toNat (by omega)
          obtain ⟨r3, r4, -⟩ := HU.out.2.2 es[k].t.toNat (by omega)
          have cf1 := hcy es[k].f.toNat (by omega)
          have ct1 := hcy es[k].t.toNat (by omega)
          clear HS hm hcy
          generalize es[k] = x at *
          obtain ⟨xf, xt, xl, xd, xy⟩ := x
          obtain ⟨fi, rfl⟩ : ∃ fi : Nat, xf = fi := ⟨xf.toNat, by have g1 : 0 ≤ xf := g1; omega⟩
          obtain ⟨ti, rfl⟩ : ∃ ti : Nat, xt = ti := ⟨xt.toNat, by have g1 : 0 ≤ (fi : Int) := g1; have g2 : (fi : Int) < xt := g2; omega⟩
          have g2 : (fi : Int) < (ti : Int) := g2
          have g3 : (ti : Int) < (xs.length : Int) := g3
          have g4 : 0 ≤ xl := g4
          have g5 : xl ≤ 8 := g5
          have g6 : (0 : Int) ≤ (fi : Int) := by omega
          have g7 : (fi : Int) < (xs.length : Int) := by omega
          have g8 : (0 : Int) ≤ (ti : Int) := by omega
          have f0 : (wr.drewN q).cell? ⟨eb, k * 5, none⟩ = some (.int .i64 (fi : Int)) := f0
          have f1 : (wr.drewN q).cell? ⟨eb, k * 5 + 1, none⟩ = some (.int .i64 (ti : Int)) := f1
          have f2 : (wr.drewN q).cell? ⟨eb, k * 5 + 2, none⟩ = some (.int .i64 xl) := f2
          have l1 : eb < (wr.drewN q).heap.size := l1
          have cl : cb < (wr.drewN q).heap.size := cl
          have cf1 : (wr.drewN q).cell? ⟨cb, cf + fi, none⟩ = some (.int .i64 (cyc ls fi)) := cf1
          have ct1 : (wr.drewN q).cell? ⟨cb, cf + ti, none⟩ = some (.int .i64 (cyc ls ti)) := ct1
          have r1 : 0 ≤ cyc ls fi := r1
          have r2 : cyc ls fi ≤ 65536 := r2
          have r3 : 0 ≤ cyc ls ti := r3
          have r4 : cyc ls ti ≤ 65536 := r4
          have HS3 : Hid (cyc ls fi + xl ≤ cyc ls ti → ∀ j (hj : j < es.length), j < k + 1 → cyc ls es[j].f.toNat + es[j].l ≤ cyc ls es[j].t.toNat) := HS2.out
          clear HS2 g1
          generalize hvf : cyc ls fi = vf at *
          generalize hvt : cyc ls ti = vt at *
          clear hvf hvt HTs HEO HLe HLi HCl HO HY HU
          generalize hWq : wr.drewN q = W at *
          by_cases hvi : vt < vf + xl
          · go_wp2_with fail
            go_quiet (fail)
            have HBq2 : Hid (Below w.heap.size w (W.drewN nq)) := ⟨HBq.out.os, HBq.out.tape, HBq.out.output, HBq.out.size, HBq.out.block⟩
            go_wp2_with (first | (go_at_call 19; refine Calls.mono (HW.out _ HBq2.out) ?_; rintro e wv ⟨rfl, bv⟩; have HV9 : Hid (Below w.heap.size w wv) := (HBq2.out).trans (bv.mono (HBq2.out).size); clear bv HW))
            go_ret
            exact ⟨rfl, HV9.out⟩
          · go_wp2_with fail
            go_quiet (fail)
            go_wp2_with fail
            go_roundw
            case rel => exact ⟨k + 1, q + nq, by omega, by go_num, by rw [← hWq]; simp, HS3.out (by omega)⟩
            case measure => simp [intOf]; omega
        · have j1 : ¬ (k : Int) < (N : Int) := by omega
          have HBd : Hid (∀ i, i < xs.length → cyc ls i + H i ≤ last) := HTs.out.bound HEO.out (cyc ls) last (fun i hi => (HU.out.2.2 i hi).2.2) fun e hm => by
            obtain ⟨j, hj, rfl⟩ := List.getElem_of_mem hm
            exact HS.out j hj (by rw [HNl.out] at hj; omega)
          clear HS HTs HEO HNl HCl HO HLi
          generalize hWq : wr.drewN q = W at *
          go_upto_region 21 with fail
          go_loopw [16] (fun v wy => ∃ (k q : Nat), k ≤ xs.length ∧ v = .int .i64 k ∧ wy = wr.drewN q) (fun v _ => xs.length - (intOf v).toNat)
          case atStart => exact ⟨0, q, by omega, rfl, hWq.symm⟩
          case round =>
            clear hWq HBq
            rename World => wy
            obtain ⟨k, q, hk, rfl, rfl⟩ := hrel
            have HBq : Hid (Below w.heap.size w (wr.drewN q)) := HQ.out.drewN q
            by_cases hkl : k < xs.length
            · have j0 : (0 : Int) ≤ (k : Int) := by omega
              have j1 : (k : Int) < (xs.length : Int) := by omega
              obtain ⟨cb, cf, rfl, hcy⟩ := HY.out (by omega)
              obtain ⟨cl, hcy⟩ := hcy _ HQ.out.up
              have cc : (wr.drewN q).cell? ⟨cb, cf + k, none⟩ = some (.int .i64 (cyc ls k)) := hcy k hkl
              have cl : cb < (wr.drewN q).heap.size := cl
              have hc : (wr.drewN q).cell? ⟨hb, k, none⟩ = some (.int .i64 (H k)) := HQ.out.ir.c k hkl
              have hl : hb < (wr.drewN q).heap.size := HQ.out.ir.lt
              obtain ⟨r1, r2, -⟩ := HU.out.2.2 k hkl
              obtain ⟨r3, r4⟩ := HLe.out k hkl
              have r5 := HBd.out k hkl
              have r6 : ¬ last < cyc ls k + H k := by omega
              have r7 : H k ≤ 1600 := by omega
              clear hcy HBd HLe HU HY r4 r5
              generalize cyc ls k = v at *
              generalize H k = hv at *
              generalize hWq : wr.drewN q = W at *
              go_wp2_with fail
              go_quiet (fail)
              go_wp2_with fail
              go_roundw
              case rel => exact ⟨k + 1, q + nq, by omega, by go_num, by rw [← hWq]; simp⟩
              case measure => simp [intOf]; omega
            · have j1 : ¬ (k : Int) < (xs.length : Int) := by omega
              clear HBd HLe HU HY HQ
              generalize wr.drewN q = W at *
              go_wp2_with (first | (go_at_call 19; refine Calls.mono (HW.out _ HBq.out) ?_; rintro e wv ⟨rfl, bv⟩; have HV9 : Hid (Below w.heap.size w wv) := (HBq.out).trans (bv.mono (HBq.out).size); clear bv HW))
              go_ret
              exact ⟨rfl, HV9.out⟩
set_option maxHeartbeats 4000000 in
theorem law_bound (ao la : Option Addr) (cap lc : Nat) (xs : List O) (ls : List Int) (t : Tab) (w : World) (h : OpsAt w ao xs) (hcap : xs.length ≤ cap) (hy : Cy w la ls) (hG : Bnds w) :
    Calls Tryd.prog 8 #[.slice ao xs.length cap, t.val, .slice la ls.length lc] w fun e w' => e = .returned (.bool true) ∧ Below w.heap.size w w' := by
  have HW : Hid (∀ W, Below w.heap.size w W → Calls Tryd.prog 19 #[] W fun e w' => e = .returned (.bool true) ∧ Below W.heap.size W w') := fun W hb => wakes12_any W (hG.below hb hG.big)
  by_cases hn : 200 < xs.length
  · have hi : (200 : Int) < (xs.length : Int) := by omega
    clear h hcap hG hn hy
    unfold Tab.val
    go_enter Tryd.func8, Tryd.ntmps8
    go_wp2_with (first | (go_at_call 19; refine Calls.mono (HW.out _ (by go_grown)) ?_; rintro e w3 ⟨rfl, hb⟩; have HB3 : Hid (Below w.heap.size w w3) := Below.trans (by go_grown) (hb.mono (by simp)); clear hb HW))
    go_ret
    exact ⟨rfl, HB3.out⟩
  · have hi : ¬ (200 : Int) < (xs.length : Int) := by omega
    by_cases hl : ls.length = xs.length
    · by_cases he : lisE t xs = 0
      · rw [hl]
        exact bound_main ao la cap lc xs ls t w h hcap hy hl hG (by omega) he
      · rw [hl]
        have HCk : Hid (∀ W, Below w.heap.size w W → Calls Tryd.prog 28 #[t.val] W fun e w' => e = .returned (.int .i64 (Tb.ckR t)) ∧ Below W.heap.size W w') := fun W hb => check_any' t W (hG.below hb hG.big)
        have HOf : Hid (∀ W, Below w.heap.size w W → Calls Tryd.prog 9 #[.slice ao xs.length cap, t.val] W fun e w' => ∃ a c, e = .returned (.tuple #[.slice a 0 c, .int .i64 (lisE t xs)]) ∧ Below W.heap.size W w') := fun W hb => (of_any ao cap xs t W (h.below hb) hcap (hG.below hb hG.big)).mono fun e w' h' => by
          unfold erE at h'
          rw [if_neg he] at h'
          obtain ⟨a, c, rfl, -, hb2⟩ := h'
          exact ⟨a, c, rfl, hb2⟩
        have HHo : Hid (∀ W, Below w.heap.size w W → Calls Tryd.prog 21 #[.slice ao xs.length cap, t.val] W fun e w' => e = .returned (.tuple #[.slice none 0 0, .int .i64 (lisE t xs)]) ∧ Below W.heap.size W w') := fun W hb => hof_no ao cap xs t W (h.below hb) hcap (hG.below hb hG.big) he
        clear h hcap hG hn hy hl
        generalize lisE t xs = er at *
        have he2 : (er != 0) = true := by simpa using he
        unfold Tab.val at *
        by_cases hck : Tb.ckR t = 0
        · rw [hck] at HCk
          go_enter Tryd.func8, Tryd.ntmps8
          go_wp2_with (first
            | (go_at_call 28; refine Calls.mono (HCk.out _ (by go_grown)) ?_; rintro e w0 ⟨rfl, b0⟩; have HT0 : Hid (Tc w w0 t) := Tc.start w t rfl b0; clear b0 HCk; have k2 := HT0.out.t; have tu0 := k2.cu 0 (by decide); have tu1 := k2.cu 1 (by decide); have tu2 := k2.cu 2 (by decide); have tu3 := k2.cu 3 (by decide); have tl0 := k2.cl 0 (by decide); have tl1 := k2.cl 1 (by decide); have tl2 := k2.cl 2 (by decide); have tl3 := k2.cl 3 (by decide); have tb0 := k2.cb 0 (by decide); have tb1 := k2.cb 1 (by decide); have tb2 := k2.cb 2 (by decide); have tb3 := k2.cb 3 (by decide); have td := k2.cd; have tz := k2.lt; clear k2)
            | (go_at_call 9; refine Calls.mono (HOf.out _ HT0.out.up) ?_; rintro e w1 ⟨a1, c1, rfl, b1⟩; have HT1 : Hid (Tc w w1 t) := ⟨HT0.out.t.below b1 HT0.out.t.lt, HT0.out.up.trans (b1.mono HT0.out.up.size)⟩; clear b1 HOf HT0 tu0 tu1 tu2 tu3 tl0 tl1 tl2 tl3 tb0 tb1 tb2 tb3 td tz; have k2 := HT1.out.t; have tu0 := k2.cu 0 (by decide); have tu1 := k2.cu 1 (by decide); have tu2 := k2.cu 2 (by decide); have tu3 := k2.cu 3 (by decide); have tl0 := k2.cl 0 (by decide); have tl1 := k2.cl 1 (by decide); have tl2 := k2.cl 2 (by decide); have tl3 := k2.cl 3 (by decide); have tb0 := k2.cb 0 (by decide); have tb1 := k2.cb 1 (by decide); have tb2 := k2.cb 2 (by decide); have tb3 := k2.cb 3 (by decide); have td := k2.cd; have tz := k2.lt; clear k2)
            | (go_at_call 21; refine Calls.mono (HHo.out _ HT1.out.up) ?_; rintro e w2 ⟨rfl, b2⟩; have HT2 : Hid (Below w.heap.size w w2) := HT1.out.up.trans (b2.mono HT1.out.up.size); clear b2 HHo HT1 tu0 tu1 tu2 tu3 tl0 tl1 tl2 tl3 tb0 tb1 tb2 tb3 td tz)
            | (go_at_call 19; refine Calls.mono (HW.out _ HT2.out) ?_; rintro e wv ⟨rfl, bv⟩; have HV9 : Hid (Below w.heap.size w wv) := (HT2.out).trans (bv.mono (HT2.out).size); clear bv HW))
          go_ret
          exact ⟨rfl, HV9.out⟩
        · have hck2 : (Tb.ckR t != 0) = true := by simpa using hck
          generalize Tb.ckR t = ck at *
          go_enter Tryd.func8, Tryd.ntmps8
          go_wp2_with (first
            | (go_at_call 28; refine Calls.mono (HCk.out _ (by go_grown)) ?_; rintro e w0 ⟨rfl, b0⟩; have HT0 : Hid (Tc w w0 t) := Tc.start w t rfl b0; clear b0 HCk)
            | (go_at_call 19; refine Calls.mono (HW.out _ HT0.out.up) ?_; rintro e wv ⟨rfl, bv⟩; have HV9 : Hid (Below w.heap.size w wv) := (HT0.out.up).trans (bv.mono (HT0.out.up).size); clear bv HW))
          go_ret
          exact ⟨rfl, HV9.out⟩
    · have hl2 : ¬ (ls.length : Int) = (xs.length : Int) := by omega
      have hl3 : ((ls.length : Int) != (xs.length : Int)) = true := by simpa using hl2
      clear h hcap hG hn hy hl
      unfold Tab.val
      go_enter Tryd.func8, Tryd.ntmps8
      go_wp2_with (first | (go_at_call 19; refine Calls.mono (HW.out _ (by go_grown)) ?_; rintro e w3 ⟨rfl, hb⟩; have HB3 : Hid (Below w.heap.size w w3) := Below.trans (by go_grown) (hb.mono (by simp)); clear hb HW))
      go_ret
      exact ⟨rfl, HB3.out⟩
end Go.Proofs.YtccakjijoadjkaaDoor.Dp
