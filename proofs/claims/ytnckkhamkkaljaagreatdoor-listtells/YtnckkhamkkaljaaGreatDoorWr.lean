/- The document's schedule (Cycles), read off the program by the walk: it is the list's way. Conditions: the list lies in memory. -/
import Derived.Test.YtnckkhamkkaljaaGreatDoorWg
import Derived.Test.YtnckkhamkkaljaaGreatDoorKx
import Derived.Test.YtnckkhamkkaljaaGreatDoorWi
import Derived.Test.YtnckkhamkkaljaaGreatDoorHw
namespace Go.Proofs.YtnckkhamkkaljaaGreatDoor.Ls
open Go.ChangeShapes Go.WideShapes Go.ChangeAt Go.RowKit
open _root_.Go.Proofs.YtnckkhamkkaljaaGreatDoor.Op _root_.Go.Proofs.YtnckkhamkkaljaaGreatDoor.So _root_.Go.Proofs.YtnckkhamkkaljaaGreatDoor.Dp _root_.Go.Proofs.YtnckkhamkkaljaaGreatDoor.ListWay
open _root_.Go.Proofs.YtnckkhamkkaljaaGreatDoor.Tb (Tab TabAt Bnds)
set_option maxRecDepth 20000

theorem hu2N {w W : World} {t : Tab} {n : Nat} (h : Hu2 w W t) : Hu2 w (W.drewN n) t := ⟨⟨h.t.cu, h.t.cl, h.t.cb, h.t.cd, h.t.lt⟩, ⟨h.up.os, h.up.tape, h.up.output, h.up.size, h.up.block⟩⟩

set_option maxHeartbeats 8000000 in
theorem busyD_any (ao : Option Addr) (cap : Nat) (xs : List O) (t : Tab) (es : List Ed) (a : Option Addr) (ccap : Nat) (g : Nat → Int) (k : Nat) (y : Int) (w : World) (h : OpsAt w ao xs) (hok : ∀ o ∈ xs, okL o = true) (hn : xs.length ≤ 1024) (ht : t.ok = true) (hg : Nl w a xs.length g) (hr : ∀ i, i < xs.length → -1 ≤ g i ∧ g i ≤ 100000) (hk : k < 4) (hy0 : 0 ≤ y) (hy1 : y ≤ 200000) :
    Calls Tryz.prog 40 #[.slice ao xs.length cap, t.val, .slice a xs.length ccap, .int .i64 (k : Int), .int .i64 y] w fun e w' => e = .returned (.int .i64 (busy (sysL t xs es) g k y : Int)) ∧ Below w.heap.size w w' := by
  have HO : Hid (OpsAt w ao xs) := h
  have HGl : Hid (Nl w a xs.length g) := hg
  have HRg : Hid (∀ i, i < xs.length → -1 ≤ g i ∧ g i ≤ 100000) := hr
  have HOk : Hid (∀ (i : Nat) (hi : i < xs.length), xs[i].Ok ∧ okL xs[i] = true) := fun i hi => ⟨h.ok _ (List.getElem_mem hi), hok _ (List.getElem_mem hi)⟩
  have hbk := Tb.inB_iff ((Tb.ok_parts ht).2 k hk).2.2
  have hn' : (xs.length : Int) ≤ 1024 := by omega
  have HS : Hid (Hu2 w (w.alloc (.cells t.cells 25)) t) := ⟨Tb.tabAt_new w t 25, (Below.refl _ _).alloc (Nat.le_refl _) _⟩
  have HCn : Hid (∀ p i, cnt p i ≤ i) := fun p i => by
    induction i with
    | zero => exact Nat.le_refl _
    | succ i ih => unfold cnt; split <;> omega
  clear h hg hr hok ht
  have hbu : busy (sysL t xs es) g k y = cnt (bsy (sysL t xs es) g k y) xs.length := rfl
  rw [hbu]
  clear hbu
  unfold Tab.val
  go_enter Tryz.func40, Tryz.ntmps40
  go_wp2_with fail
  generalize w.alloc (.cells t.cells 25) = W0 at *
  go_loopw [11, 12] (fun c v wr => ∃ i : Nat, i ≤ xs.length ∧ c = .int .i64 (cnt (bsy (sysL t xs es) g k y) i : Int) ∧ v = .int .i64 i ∧ Hu2 w wr t) (fun _ v _ => xs.length - (intOf v).toNat)
  case atStart => exact ⟨0, by omega, rfl, rfl, HS.out⟩
  case round =>
    rename World => wr
    obtain ⟨i, hi, rfl, rfl, hs⟩ := hrel
    have HQ : Hid (Hu2 w wr t) := hs
    clear hs HS
    by_cases hlt : i < xs.length
    · have i0 : (0 : Int) ≤ (i : Int) := by omega
      have i1 : (i : Int) < (xs.length : Int) := by omega
      obtain ⟨b, f, rfl, hz2, hx⟩ := (HO.out.below HQ.out.up).is (by omega)
      obtain ⟨q0, -, -, -, -⟩ := hx i hlt
      obtain ⟨ho, hol⟩ := HOk.out i hlt
      obtain ⟨hv1, hv2⟩ := clV_D hol
      have HC : Hid (∀ W, Calls Tryz.prog 34 #[.int .i8 xs[i].op] W fun e w' => e = .returned (.tuple #[.int .i64 (clN xs i : Int), .bool true]) ∧ Below W.heap.size W w') := fun W => by
        have h1 := refClass_any xs[i].op W
        rw [hv1, hv2] at h1
        rw [clN_at hlt]
        exact h1
      have HBs : Hid (bsy (sysL t xs es) g k y i = (decide (clN xs i = k) && (decide (0 ≤ g i) && (decide (g i ≤ y) && decide (y < g i + t.b k))))) := by
        show (decide (clN xs i = k) && (decide (0 ≤ g i) && (decide (g i ≤ y) && decide (y < g i + ((if k < 4 then (t.b k).toNat else 1 : Nat) : Int))))) = _
        rw [if_pos hk, show (((t.b k).toNat : Nat) : Int) = t.b k by omega]
      have HNx : Hid (∀ v, bsy (sysL t xs es) g k y i = v → cnt (bsy (sysL t xs es) g k y) (i + 1) = cnt (bsy (sysL t xs es) g k y) i + (if v = true then 1 else 0)) := fun v e => by
        show cnt _ i + (if bsy (sysL t xs es) g k y i = true then 1 else 0) = _
        rw [e]
      have hcl4 := clN_lt xs i
      have hcn := HCn.out (bsy (sysL t xs es) g k y) i
      obtain ⟨r1, r2⟩ := HRg.out i hlt
      clear hx ho hol hv1 hv2
      obtain ⟨cl, hcl⟩ : ∃ cl, clN xs i = cl := ⟨_, rfl⟩
      rw [hcl] at HC HBs hcl4
      obtain ⟨gi, hgi⟩ : ∃ gi, g i = gi := ⟨_, rfl⟩
      rw [hgi] at HBs r1 r2
      have HGi : Hid (g i = gi) := hgi
      generalize bsy (sysL t xs es) g k y i = bv at *
      obtain ⟨p, hp⟩ : ∃ p, cnt (bsy (sysL t xs es) g k y) i = p := ⟨_, rfl⟩
      rw [hp] at HNx hcn ⊢
      clear hcl hgi hp
      generalize xs[i] = o at *
      obtain ⟨xn, hxn⟩ : ∃ n, xs.length = n := ⟨_, rfl⟩
      have HXn : Hid (xs.length = xn) := hxn
      rw [hxn] at i1 hn' ⊢
      clear hxn
      go_upto_region 6 with (first
        | (go_at_call 34; refine Calls.mono (HC.out _) ?_; rintro e w2 ⟨rfl, hb2⟩; have HQ2 : Hid (Hu2 w w2 t) := HQ.out.next hb2; clear hb2 HC HQ q0 hz2))
      have HLo : Hid (g i = gi) := HGi.out
      obtain ⟨cb, cf, rfl, hcz, hcx⟩ := (HGl.out.up HQ2.out.up).is (by rw [HXn.out]; omega)
      have hci := hcx i (by rw [HXn.out]; omega)
      rw [HLo.out] at hci
      have tbk := HQ2.out.t.cb k hk
      have tl := HQ2.out.t.lt
      clear hcx HLo
      have hRel : ∀ v, bv = v → ∀ x : Int, x = (p : Int) + (if v = true then 1 else 0) → (Value.int .i64 x) = .int .i64 ((cnt (bsy (sysL t xs es) g k y) (i + 1) : Nat) : Int) := fun v e x hx => by
        rw [HNx.out v e, hx]
        congr 1
        split <;> simp
      have HRel : Hid (∀ v, bv = v → ∀ x : Int, x = (p : Int) + (if v = true then 1 else 0) → (Value.int .i64 x) = .int .i64 ((cnt (bsy (sysL t xs es) g k y) (i + 1) : Nat) : Int)) := hRel
      clear hRel
      go_cut [60] (fun v wx => v = .bool bv ∧ Hu2 w wx t)
      case first =>
        by_cases c1 : cl = k
        · subst c1
          have d1 : decide ((cl : Int) = (cl : Int)) = true := by simp
          by_cases c0 : 0 ≤ gi
          · by_cases c2 : gi ≤ y
            · by_cases c3 : y < gi + t.b cl
              · have hv : bv = true := by rw [HBs.out]; simp; omega
                subst hv
                go_quiet (fail)
                go_wp2_with fail
                go_meet
                exact ⟨rfl, hu2N HQ2.out⟩
              · have d3 : decide (y < gi + t.b cl) = false := by simp; omega
                have hv : bv = false := by rw [HBs.out]; simp; omega
                subst hv
                go_quiet (fail)
                go_wp2_with fail
                go_meet
                exact ⟨rfl, hu2N HQ2.out⟩
            · have d2 : decide (gi ≤ y) = false := by simp; omega
              have hv : bv = false := by rw [HBs.out]; simp; omega
              subst hv
              go_quiet (fail)
              go_wp2_with fail
              go_meet
              exact ⟨rfl, hu2N HQ2.out⟩
          · have d0 : decide (0 ≤ gi) = false := by simp; omega
            have hv : bv = false := by rw [HBs.out]; simp; omega
            subst hv
            go_quiet (fail)
            go_wp2_with fail
            go_meet
            exact ⟨rfl, hu2N HQ2.out⟩
        · have d1 : ((cl : Int) == (k : Int)) = false := by simp; omega
          have d1' : decide ((cl : Int) = (k : Int)) = false := by simp; omega
          have hv : bv = false := by rw [HBs.out]; simp [c1]
          subst hv
          go_quiet (fail)
          go_wp2_with fail
          go_meet
          exact ⟨rfl, hu2N HQ2.out⟩
      case rest =>
        obtain ⟨rfl, hq3⟩ := hcut
        have HQ3 : Hid (Hu2 w wc t) := hq3
        clear hq3 HQ2 hci hcz tbk tl HBs
        cases bv
        · go_wp2_with fail
          go_roundw
          case rel => exact ⟨i + 1, by omega, HRel.out false rfl _ (by simp), by go_num, HQ3.out⟩
          case measure => simp [intOf]; omega
        · go_wp2_with fail
          go_roundw
          case rel => exact ⟨i + 1, by omega, HRel.out true rfl _ (by simp), by go_num, HQ3.out⟩
          case measure => simp [intOf]; omega
    · obtain rfl : i = xs.length := by omega
      have i1 : ¬ ((xs.length : Nat) : Int) < ((xs.length : Nat) : Int) := by omega
      go_wp2_with fail
      go_ret
      exact ⟨rfl, HQ.out.up⟩
end Go.Proofs.YtnckkhamkkaljaaGreatDoor.Ls

namespace Go.Proofs.YtnckkhamkkaljaaGreatDoor.Ls
open Go.ChangeShapes Go.WideShapes Go.ChangeAt Go.RowKit
open _root_.Go.Proofs.YtnckkhamkkaljaaGreatDoor.Op _root_.Go.Proofs.YtnckkhamkkaljaaGreatDoor.So _root_.Go.Proofs.YtnckkhamkkaljaaGreatDoor.Dp _root_.Go.Proofs.YtnckkhamkkaljaaGreatDoor.ListWay
open _root_.Go.Proofs.YtnckkhamkkaljaaGreatDoor.Tb (Tab TabAt Bnds)
set_option maxRecDepth 20000

theorem belN {B k : Nat} {w W : World} (h : Below B w W) : Below B w (W.drewN k) := ⟨h.os, h.tape, h.output, h.size, h.block⟩
set_option maxHeartbeats 4000000 in
theorem uses_any (ao : Option Addr) (cap : Nat) (xs : List O) (t : Tab) (w : World) (h : OpsAt w ao xs) (hok : ∀ o ∈ xs, okL o = true) (hn : xs.length ≤ 1024) :
    Calls Tryz.prog 16 #[.slice ao xs.length cap, t.val] w fun e w' => e = .returned (.bool (!hvU t xs)) ∧ Below w.heap.size w w' := by
  have HO : Hid (OpsAt w ao xs) := h
  have HOk : Hid (∀ (i : Nat) (hi : i < xs.length), okL xs[i] = true) := fun i hi => hok _ (List.getElem_mem hi)
  have hn' : (xs.length : Int) ≤ 1024 := by omega
  clear h hok
  have HS : Hid (Hu2 w (w.alloc (.cells t.cells 25)) t) := ⟨Tb.tabAt_new w t 25, (Below.refl _ _).alloc (Nat.le_refl _) _⟩
  unfold Tab.val
  go_enter Tryz.func16, Tryz.ntmps16
  go_wp2_with fail
  generalize w.alloc (.cells t.cells 25) = W0 at *
  go_loopw [5] (fun v wr => ∃ k : Nat, k ≤ xs.length ∧ v = .int .i64 k ∧ (∀ (j : Nat) (hj : j < xs.length), j < k → ¬ t.u (clD xs[j].op) = 0) ∧ Hu2 w wr t) (fun v _ => xs.length - (intOf v).toNat)
  case atStart => exact ⟨0, by omega, rfl, fun j _ hj => by omega, HS.out⟩
  case round =>
    rename World => wr
    obtain ⟨k, hk, rfl, hok, hs⟩ := hrel
    have HK : Hid (∀ (j : Nat) (hj : j < xs.length), j < k → ¬ t.u (clD xs[j].op) = 0) := hok
    have HQ : Hid (Hu2 w wr t) := hs
    clear hs HS hok
    by_cases hlt : k < xs.length
    · have k0 : (0 : Int) ≤ (k : Int) := by omega
      have k1 : (k : Int) < (xs.length : Int) := by omega
      obtain ⟨b, f, rfl, hz2, hx⟩ := (HO.out.below HQ.out.up).is (by omega)
      obtain ⟨q0, -, -, -, -⟩ := hx k hlt
      obtain ⟨hv1, hv2⟩ := clV_D (HOk.out k hlt)
      have HC : Hid (∀ W, Calls Tryz.prog 34 #[.int .i8 xs[k].op] W fun e w' => e = .returned (.tuple #[.int .i64 (clD xs[k].op : Int), .bool true]) ∧ Below W.heap.size W w') := fun W => by
        have h1 := refClass_any xs[k].op W
        rw [hv1, hv2] at h1
        exact h1
      have HNo : Hid (t.u (clD xs[k].op) = 0 → false = hvU t xs) := fun e => hvU_no hlt e
      have HNx : Hid (¬ t.u (clD xs[k].op) = 0 → ∀ (j : Nat) (hj : j < xs.length), j < k + 1 → ¬ t.u (clD xs[j].op) = 0) := fun e j hj hjk => by
        rcases Nat.lt_or_ge j k with h | h
        · exact HK.out j hj h
        · obtain rfl : j = k := by omega
          exact e
      have c4 := clD_lt xs[k].op
      clear hx hv1 hv2
      generalize clD xs[k].op = c at *
      generalize xs[k] = o at *
      have c0 : (0 : Int) ≤ (c : Int) := by omega
      have c3 : (c : Int) < 4 := by omega
      by_cases hu : t.u c = 0
      · have HR : Hid (false = hvU t xs) := HNo.out hu
        go_wp2_with (first
          | (go_at_call 34; refine Calls.mono (HC.out _) ?_; rintro e w2 ⟨rfl, hb2⟩; have HQ3 : Hid (Hu2 w w2 t) := HQ.out.next hb2; clear hb2 HC HQ q0 hz2; have hc := HQ3.out.t.cu c c4; have hl := HQ3.out.t.lt))
        go_ret
        exact ⟨by rw [← HR.out]; rfl, HQ3.out.up⟩
      · have hub : (t.u c == 0) = false := by simpa using hu
        go_wp2_with (first
          | (go_at_call 34; refine Calls.mono (HC.out _) ?_; rintro e w2 ⟨rfl, hb2⟩; have HQ3 : Hid (Hu2 w w2 t) := HQ.out.next hb2; clear hb2 HC HQ q0 hz2; have hc := HQ3.out.t.cu c c4; have hl := HQ3.out.t.lt))
        go_roundw
        case rel => exact ⟨k + 1, by omega, by go_num, HNx.out hu, HQ3.out⟩
        case measure => simp [intOf]; omega
    · obtain rfl : k = xs.length := by omega
      have k1 : ¬ (xs.length : Int) < (xs.length : Int) := by omega
      have HR : Hid (true = hvU t xs) := hvU_yes fun j hj => HK.out j hj hj
      go_wp2_with fail
      go_ret
      exact ⟨by rw [← HR.out]; rfl, HQ.out.up⟩
/-- Ready, by the edges. -/
def rdB (es : List Ed) (c : Nat → Int) (y : Int) (i : Nat) : Bool := es.all fun e => !decide (e.t.toNat = i) || (decide (0 ≤ c e.f.toNat) && decide (c e.f.toNat + e.l ≤ y))
theorem rdB_no {es : List Ed} {c : Nat → Int} {y : Int} {i k : Nat} (h : k < es.length) (e : (!decide (es[k].t.toNat = i) || (decide (0 ≤ c es[k].f.toNat) && decide (c es[k].f.toNat + es[k].l ≤ y))) = false) : false = rdB es c y i := by
  symm
  refine List.all_eq_false.2 ⟨es[k], List.getElem_mem h, ?_⟩
  rw [e]
  decide
theorem rdB_yes {es : List Ed} {c : Nat → Int} {y : Int} {i : Nat} (h : ∀ (k : Nat) (hk : k < es.length), (!decide (es[k].t.toNat = i) || (decide (0 ≤ c es[k].f.toNat) && decide (c es[k].f.toNat + es[k].l ≤ y))) = true) : true = rdB es c y i := by
  symm
  refine List.all_eq_true.2 fun e he => ?_
  obtain ⟨k, hk, rfl⟩ := List.getElem_of_mem he
  exact h k hk
set_option maxHeartbeats 8000000 in
theorem dready_any (ea : Option Addr) (ec B : Nat) (es : List Ed) (cb n i : Nat) (c : Nat → Int) (y : Int) (w : World) (he : EOwn B w ea ec es) (ho : EOk n es) (hl : es.length ≤ 100000000) (hc : Ir w cb n c) (hr : ∀ i, i < n → -1 ≤ c i ∧ c i ≤ 100000) (hn : n ≤ 1024) (hi : i < n) (hy0 : 0 ≤ y) (hy1 : y ≤ 100000) :
    Calls Tryz.prog 18 #[.slice ea es.length ec, .slice (some ⟨cb, 0, none⟩) n n, .int .i64 (i : Int), .int .i64 y] w fun e w' => e = .returned (.bool (rdB es c y i)) ∧ Below w.heap.size w w' := by
  have HE : Hid (EOwn B w ea ec es) := he
  have HEO : Hid (EOk n es) := ho
  have HC : Hid (Ir w cb n c) := hc
  have HRg : Hid (∀ i, i < n → -1 ≤ c i ∧ c i ≤ 100000) := hr
  obtain ⟨M, hM⟩ : ∃ M, es.length = M := ⟨_, rfl⟩
  have HM : Hid (es.length = M) := hM
  have hM' : (M : Int) ≤ 100000000 := by omega
  have hn' : (n : Int) ≤ 1024 := by omega
  rw [hM]
  clear he ho hc hr hl hM
  go_enter Tryz.func18, Tryz.ntmps18
  go_wp2_with fail
  go_loopw [9] (fun v wr => ∃ k : Nat, k ≤ M ∧ v = .int .i64 k ∧ (∀ (j : Nat) (hj : j < es.length), j < k → (!decide (es[j].t.toNat = i) || (decide (0 ≤ c es[j].f.toNat) && decide (c es[j].f.toNat + es[j].l ≤ y))) = true) ∧ Below w.heap.size w wr) (fun v _ => M - (intOf v).toNat)
  case atStart => exact ⟨0, by omega, rfl, fun j _ hj => by omega, Below.refl _ _⟩
  case round =>
    rename World => wr
    obtain ⟨k, hk, rfl, hok, hb⟩ := hrel
    have HK : Hid (∀ (j : Nat) (hj : j < es.length), j < k → (!decide (es[j].t.toNat = i) || (decide (0 ≤ c es[j].f.toNat) && decide (c es[j].f.toNat + es[j].l ≤ y))) = true) := hok
    have HB : Hid (Below w.heap.size w wr) := hb
    clear hok hb
    by_cases hlt : k < M
    · have k0 : (0 : Int) ≤ (k : Int) := by omega
      have k1 : (k : Int) < (M : Int) := by omega
      have hke : k < es.length := by rw [HM.out]; exact hlt
      obtain ⟨eb, rfl, l1, lb1, f0, f1, f2, f3, f4⟩ := eOwn_at (row_fr HE.out (Fr.of (X := Non) HB.out) fun _ _ h => h) hke
      have hm := List.getElem_mem hke
      have g1 := HEO.out.f0 _ hm
      have g2 := HEO.out.ft _ hm
      have g3 := HEO.out.tn _ hm
      obtain ⟨g4, g5⟩ := HEO.out.l0 _ hm
      have HNo : Hid ((!decide (es[k].t.toNat = i) || (decide (0 ≤ c es[k].f.toNat) && decide (c es[k].f.toNat + es[k].l ≤ y))) = false → false = rdB es c y i) := fun e => rdB_no hke e
      have HYs : Hid ((!decide (es[k].t.toNat = i) || (decide (0 ≤ c es[k].f.toNat) && decide (c es[k].f.toNat + es[k].l ≤ y))) = true → ∀ (j : Nat) (hj : j < es.length), j < k + 1 → (!decide (es[j].t.toNat = i) || (decide (0 ≤ c es[j].f.toNat) && decide (c es[j].f.toNat + es[j].l ≤ y))) = true) := fun e j hj hjk => by
        rcases Nat.lt_or_ge j k with h | h
        · exact HK.out j hj h
        · obtain rfl : j = k := by omega
          exact e
      clear hm
      generalize es[k] = x at *
      obtain ⟨xf, xt, xl, xd, xy⟩ := x
      obtain ⟨fi, rfl⟩ : ∃ fi : Nat, xf = fi := ⟨xf.toNat, by have g1 : 0 ≤ xf := g1; omega⟩
      obtain ⟨ti, rfl⟩ : ∃ ti : Nat, xt = ti := ⟨xt.toNat, by have g1 : 0 ≤ (fi : Int) := g1; have g2 : (fi : Int) < xt := g2; omega⟩
      have g2 : (fi : Int) < (ti : Int) := g2
      have g3 : (ti : Int) < (n : Int) := g3
      have g4 : 0 ≤ xl := g4
      have g5 : xl ≤ 8 := g5
      have g6 : (0 : Int) ≤ (fi : Int) := by omega
      have g7 : (fi : Int) < (n : Int) := by omega
      clear g1
      have HNo : Hid ((!decide (ti = i) || (decide (0 ≤ c fi) && decide (c fi + xl ≤ y))) = false → false = rdB es c y i) := HNo.out
      have HYs : Hid ((!decide (ti = i) || (decide (0 ≤ c fi) && decide (c fi + xl ≤ y))) = true → ∀ (j : Nat) (hj : j < es.length), j < k + 1 → (!decide (es[j].t.toNat = i) || (decide (0 ≤ c es[j].f.toNat) && decide (c es[j].f.toNat + es[j].l ≤ y))) = true) := HYs.out
      obtain ⟨h1, h2⟩ := HRg.out fi (by omega)
      have cf := (HC.out.fr (Fr.of (X := Non) HB.out) fun h => h).c fi (by omega)
      have cz := (HC.out.fr (Fr.of (X := Non) HB.out) fun h => h).lt
      obtain ⟨vf, hvf⟩ : ∃ v, c fi = v := ⟨_, rfl⟩
      rw [hvf] at HNo HYs h1 h2 cf
      clear hvf
      go_upto_region 5 with fail
      by_cases hti : ti = i
      · subst hti
        have d1 : decide ((ti : Int) = (ti : Int)) = true := by simp
        by_cases hneg : vf < 0
        · have d2 : decide (vf < 0) = true := by simpa using hneg
          have hr0 : false = rdB es c y ti := HNo.out (by simp; omega)
          have HR : Hid (false = rdB es c y ti) := hr0
          clear hr0 HNo HYs
          go_quiet (fail)
          go_wp2_with fail
          go_ret
          exact ⟨ret_bool HR.out, belN HB.out⟩
        · have d2 : decide (vf < 0) = false := by simp; omega
          by_cases hgt : y < vf + xl
          · have d3 : decide (y < vf + xl) = true := by simpa using hgt
            have hr0 : false = rdB es c y ti := HNo.out (by simp; omega)
            have HR : Hid (false = rdB es c y ti) := hr0
            clear hr0 HNo HYs
            go_quiet (fail)
            go_wp2_with fail
            go_ret
            exact ⟨ret_bool HR.out, belN HB.out⟩
          · have d3 : decide (y < vf + xl) = false := by simp; omega
            go_quiet (fail)
            go_wp2_with fail
            go_roundw
            case rel => exact ⟨k + 1, by omega, by go_num, HYs.out (by simp; omega), belN HB.out⟩
            case measure => simp [intOf]; omega
      · have d1 : ((ti : Int) == (i : Int)) = false := by simp; omega
        have d1' : decide ((ti : Int) = (i : Int)) = false := by simp; omega
        have HYs : Hid (∀ (j : Nat) (hj : j < es.length), j < k + 1 → (!decide (es[j].t.toNat = i) || (decide (0 ≤ c es[j].f.toNat) && decide (c es[j].f.toNat + es[j].l ≤ y))) = true) := HYs.out (by simp [hti])
        go_quiet (fail)
        go_wp2_with fail
        go_roundw
        case rel => exact ⟨k + 1, by omega, by go_num, HYs.out, belN HB.out⟩
        case measure => simp [intOf]; omega
    · obtain rfl : k = M := by omega
      have k1 : ¬ (k : Int) < (k : Int) := by omega
      have HR : Hid (true = rdB es c y i) := rdB_yes fun j hj => HK.out j hj (by rw [← HM.out]; exact hj)
      go_wp2_with fail
      go_ret
      exact ⟨ret_bool HR.out, HB.out⟩
/-- Free, by the units. -/
def fdB (s : ListWay.Sys) (c : Nat → Int) (y : Int) (i : Nat) : Bool := (List.range (s.b (s.cls i))).all fun k => decide (busy s c (s.cls i) (y + (k : Nat)) < s.u (s.cls i))
theorem rf_split (t : Tab) (xs : List O) (es : List Ed) (c : Nat → Int) (y : Int) (i : Nat) : rfB (sysL t xs es) c y i = (rdB es c y i && fdB (sysL t xs es) c y i) := by
  unfold rfB rdB fdB
  congr 1
  show (es.map eg).all _ = _
  rw [List.all_map]
  rfl
set_option maxHeartbeats 8000000 in
theorem dfree_any (ao : Option Addr) (cap : Nat) (xs : List O) (t : Tab) (es : List Ed) (a : Option Addr) (ccap : Nat) (g : Nat → Int) (i : Nat) (y : Int) (w : World) (h : OpsAt w ao xs) (hok : ∀ o ∈ xs, okL o = true) (hn : xs.length ≤ 1024) (ht : t.ok = true) (hg : Nl w a xs.length g) (hr : ∀ i, i < xs.length → -1 ≤ g i ∧ g i ≤ 100000) (hi : i < xs.length) (hy0 : 0 ≤ y) (hy1 : y ≤ 100000) :
    Calls Tryz.prog 19 #[.slice ao xs.length cap, t.val, .slice a xs.length ccap, .int .i64 (i : Int), .int .i64 y] w fun e w' => e = .returned (.bool (fdB (sysL t xs es) g y i)) ∧ Below w.heap.size w w' := by
  obtain ⟨b, f, rfl, hz2, hx⟩ := h.is (by omega)
  obtain ⟨q0, -, -, -, -⟩ := hx i hi
  have hol := hok _ (List.getElem_mem hi)
  obtain ⟨hv1, hv2⟩ := clV_D hol
  have HC : Hid (∀ W, Calls Tryz.prog 34 #[.int .i8 xs[i].op] W fun e w' => e = .returned (.tuple #[.int .i64 (clN xs i : Int), .bool true]) ∧ Below W.heap.size W w') := fun W => by
    have h1 := refClass_any xs[i].op W
    rw [hv1, hv2] at h1
    rw [clN_at hi]
    exact h1
  have HBz0 : Hid (∀ Z (j : Nat), Below w.heap.size w Z → j < 4 → Calls Tryz.prog 40 #[.slice (some ⟨b, f, none⟩) xs.length cap, .agg #[.int .i64 (t.u 0), .int .i64 (t.u 1), .int .i64 (t.u 2), .int .i64 (t.u 3), .int .i64 (t.l 0), .int .i64 (t.l 1), .int .i64 (t.l 2), .int .i64 (t.l 3), .int .i64 (t.b 0), .int .i64 (t.b 1), .int .i64 (t.b 2), .int .i64 (t.b 3), .int .i64 t.d], .slice a xs.length ccap, .int .i64 (clN xs i : Int), .int .i64 (y + (j : Int))] Z fun e w' => e = .returned (.int .i64 (busy (sysL t xs es) g (clN xs i) (y + (j : Int)) : Int)) ∧ Below Z.heap.size Z w') := fun Z j hb hj => busyD_any (some ⟨b, f, none⟩) cap xs t es a ccap g (clN xs i) _ Z (h.below hb) hok hn ht (hg.up hb) hr (clN_lt xs i) (by omega) (by omega)
  have hbk := Tb.inB_iff ((Tb.ok_parts ht).2 (clN xs i) (clN_lt xs i)).2.2
  have huk := Tb.inB_iff ((Tb.ok_parts ht).2 (clN xs i) (clN_lt xs i)).1
  have c4 := clN_lt xs i
  have hfd : fdB (sysL t xs es) g y i = (List.range (t.b (clN xs i)).toNat).all fun k => decide ((busy (sysL t xs es) g (clN xs i) (y + (k : Nat)) : Int) < t.u (clN xs i)) := by
    unfold fdB
    rw [sysL_b]
    congr 1
    funext k
    show decide (busy (sysL t xs es) g (clN xs i) (y + (k : Nat)) < (t.u (clN xs i)).toNat) = _
    rw [Bool.eq_iff_iff, decide_eq_true_eq, decide_eq_true_eq]
    omega
  rw [hfd]
  have HS : Hid (Hu2 w (w.alloc (.cells t.cells 25)) t ∧ (w.alloc (.cells t.cells 25)).cell? ⟨b, f + i * 5, none⟩ = some (.int .i8 xs[i].op) ∧ b < (w.alloc (.cells t.cells 25)).heap.size) := by
    have gg : Below w.heap.size w (w.alloc (.cells t.cells 25)) := (Below.refl _ _).alloc (Nat.le_refl _) _
    exact ⟨⟨Tb.tabAt_new w t 25, gg⟩, by rw [(bcell gg).1 _ _ hz2]; exact q0, Nat.lt_of_lt_of_le hz2 gg.size⟩
  have i0 : (0 : Int) ≤ (i : Int) := by omega
  have i1 : (i : Int) < (xs.length : Int) := by omega
  have hn' : (xs.length : Int) ≤ 1024 := by omega
  clear hfd hx h hok hg hr hol hv1 hv2 ht hz2 q0
  generalize hcl : clN xs i = cl at *
  generalize sysL t xs es = s at *
  generalize xs[i] = o at *
  generalize xs.length = n at *
  clear hcl
  obtain ⟨B, hB⟩ : ∃ B : Nat, t.b cl = B := ⟨(t.b cl).toNat, by omega⟩
  have HB : Hid (t.b cl = (B : Int)) := hB
  rw [hB] at hbk ⊢
  clear hB
  rw [Int.toNat_natCast]
  unfold Tab.val
  go_enter Tryz.func19, Tryz.ntmps19
  go_upto_region 1 with fail
  generalize w.alloc (.cells t.cells 25) = W0 at *
  have q0 := HS.out.2.1
  have ql := HS.out.2.2
  go_wp2_with (first
    | (go_at_call 34; refine Calls.mono (HC.out _) ?_; rintro e w2 ⟨rfl, hb2⟩; have HQ0 : Hid (Hu2 w w2 t) := HS.out.1.next hb2; clear hb2 HC HS q0 ql))
  go_loopw [13] (fun v wr => ∃ j : Nat, j ≤ B ∧ v = .int .i64 j ∧ (∀ k, k < j → (busy s g cl (y + (k : Nat)) : Int) < t.u cl) ∧ Hu2 w wr t) (fun v _ => B - (intOf v).toNat)
  case atStart => exact ⟨0, by omega, rfl, fun k hk => by omega, HQ0.out⟩
  case round =>
    rename World => wr
    obtain ⟨j, hj, rfl, hall, hs⟩ := hrel
    have HQ2 : Hid (Hu2 w wr t) := hs
    have HAl : Hid (∀ k, k < j → (busy s g cl (y + (k : Nat)) : Int) < t.u cl) := hall
    clear hs hall HQ0
    have tbc := HQ2.out.t.cb cl c4
    rw [HB.out] at tbc
    have ttl := HQ2.out.t.lt
    have c0 : (0 : Int) ≤ (cl : Int) := by omega
    have c3 : (cl : Int) < 4 := by omega
    by_cases hjb : j < B
    · have j1 : (j : Int) < (B : Int) := by omega
      have HBz : Hid (∀ Z, Below w.heap.size w Z → Calls Tryz.prog 40 #[.slice (some ⟨b, f, none⟩) n cap, .agg #[.int .i64 (t.u 0), .int .i64 (t.u 1), .int .i64 (t.u 2), .int .i64 (t.u 3), .int .i64 (t.l 0), .int .i64 (t.l 1), .int .i64 (t.l 2), .int .i64 (t.l 3), .int .i64 (t.b 0), .int .i64 (t.b 1), .int .i64 (t.b 2), .int .i64 (t.b 3), .int .i64 t.d], .slice a n ccap, .int .i64 (cl : Int), .int .i64 (y + (j : Int))] Z fun e w' => e = .returned (.int .i64 (busy s g cl (y + (j : Int)) : Int)) ∧ Below Z.heap.size Z w') := fun Z hZ => HBz0.out Z j hZ (by omega)
      have HNo : Hid (t.u cl ≤ (busy s g cl (y + (j : Int)) : Int) → false = (List.range B).all fun k => decide ((busy s g cl (y + (k : Nat)) : Int) < t.u cl)) := fun e => by
        symm
        refine List.all_eq_false.2 ⟨j, List.mem_range.2 hjb, ?_⟩
        simp; omega
      have HYs : Hid (¬ t.u cl ≤ (busy s g cl (y + (j : Int)) : Int) → ∀ k, k < j + 1 → (busy s g cl (y + (k : Nat)) : Int) < t.u cl) := fun e k hk => by
        rcases Nat.lt_or_ge k j with h | h
        · exact HAl.out k h
        · obtain rfl : k = j := by omega
          omega
      obtain ⟨bz, hbz⟩ : ∃ v, busy s g cl (y + (j : Int)) = v := ⟨_, rfl⟩
      rw [hbz] at HBz HNo HYs
      clear hbz
      have hwr : IntKind.i64.wrap (y + (j : Int)) = y + (j : Int) := by rw [IntKind.wrap_i64]; omega
      go_upto_region 5 with fail
      clear tbc ttl
      by_cases hd : t.u cl ≤ (bz : Int)
      · have hd1 : decide (t.u cl ≤ (bz : Int)) = true := by simpa using hd
        have HR : Hid _ := HNo.out hd
        refine wp_region_held_drew (S := fun Z => Hu2 w Z t) (by kernel_rfl) (HQ2.out.next (drew_up _)) (fun hHeld => ?_)
        refine wpAnyH_take (i := 0) (v := .slice (some ⟨b, f, none⟩) n cap) rfl (by kernel_rfl) (by kernel_rfl) (by kernel_rfl) (fun _ _ _ h => h) (Or.inl ⟨by rfl, fun w' hSw => by (go_simp)⟩) hHeld ?_
        simp only [Act.put, List.setIfInBounds_toArray, List.set_cons_zero, List.set_cons_succ, List.getElem_cons_zero, List.getElem_toArray]
        refine wpAnyH_take (i := 1) (v := .agg #[.int .i64 (t.u 0), .int .i64 (t.u 1), .int .i64 (t.u 2), .int .i64 (t.u 3), .int .i64 (t.l 0), .int .i64 (t.l 1), .int .i64 (t.l 2), .int .i64 (t.l 3), .int .i64 (t.b 0), .int .i64 (t.b 1), .int .i64 (t.b 2), .int .i64 (t.b 3), .int .i64 t.d]) rfl (by kernel_rfl) (by kernel_rfl) (by kernel_rfl) (fun _ _ _ h => h) (Or.inl ⟨by rfl, fun w' hSw => by (have k2 := hSw.t; have qu0 := k2.cu 0 (by decide); have qu1 := k2.cu 1 (by decide); have qu2 := k2.cu 2 (by decide); have qu3 := k2.cu 3 (by decide); have ql0 := k2.cl 0 (by decide); have ql1 := k2.cl 1 (by decide); have ql2 := k2.cl 2 (by decide); have ql3 := k2.cl 3 (by decide); have qb0 := k2.cb 0 (by decide); have qb1 := k2.cb 1 (by decide); have qb2 := k2.cb 2 (by decide); have qb3 := k2.cb 3 (by decide); have qd := k2.cd; have qz := k2.lt; clear k2; go_simp)⟩) hHeld ?_
        simp only [Act.put, List.setIfInBounds_toArray, List.set_cons_zero, List.set_cons_succ, List.getElem_cons_zero, List.getElem_cons_succ, List.getElem_toArray]
        refine wpAnyH_take (i := 2) (v := .slice a n ccap) rfl (by kernel_rfl) (by kernel_rfl) (by kernel_rfl) (fun _ _ _ h => h) (Or.inl ⟨by rfl, fun w' hSw => by (go_simp)⟩) hHeld ?_
        simp only [Act.put, List.setIfInBounds_toArray, List.set_cons_zero, List.set_cons_succ, List.getElem_cons_zero, List.getElem_cons_succ, List.getElem_toArray]
        refine wpAnyH_take (i := 3) (v := .int .i64 (cl : Int)) rfl (by kernel_rfl) (by kernel_rfl) (by kernel_rfl) (fun _ _ _ h => h) (Or.inl ⟨by rfl, fun w' hSw => by (go_simp)⟩) hHeld ?_
        simp only [Act.put, List.setIfInBounds_toArray, List.set_cons_zero, List.set_cons_succ, List.getElem_cons_zero, List.getElem_cons_succ, List.getElem_toArray]
        refine wpAnyH_take (i := 4) (v := .int .i64 y) rfl (by kernel_rfl) (by kernel_rfl) (by kernel_rfl) (fun _ _ _ h => h) (Or.inl ⟨by rfl, fun w' hSw => by (go_simp)⟩) hHeld ?_
        simp only [Act.put, List.setIfInBounds_toArray, List.set_cons_zero, List.set_cons_succ, List.getElem_cons_zero, List.getElem_cons_succ, List.getElem_toArray]
        refine wpAnyH_take (i := 5) (v := .int .i64 (j : Int)) rfl (by kernel_rfl) (by kernel_rfl) (by kernel_rfl) (fun _ _ _ h => h) (Or.inl ⟨by rfl, fun w' hSw => by (go_simp)⟩) hHeld ?_
        simp only [Act.put, List.setIfInBounds_toArray, List.set_cons_zero, List.set_cons_succ, List.getElem_cons_zero, List.getElem_cons_succ, List.getElem_toArray]
        refine wpAnyH_take (i := 6) (v := .int .i64 (y + (j : Int))) rfl (by kernel_rfl) (by kernel_rfl) (by kernel_rfl) (fun _ _ _ h => h) (Or.inl ⟨by rfl, fun w' hSw => by (go_simp)⟩) hHeld ?_
        simp only [Act.put, List.setIfInBounds_toArray, List.set_cons_zero, List.set_cons_succ, List.getElem_cons_zero, List.getElem_cons_succ, List.getElem_toArray]
        refine wpAnyH_take (i := 8) (v := .int .i64 (cl : Int)) rfl (by kernel_rfl) (by kernel_rfl) (by kernel_rfl) (fun _ _ _ h => h) (Or.inl ⟨by rfl, fun w' hSw => by (go_simp)⟩) hHeld ?_
        simp only [Act.put, List.setIfInBounds_toArray, List.set_cons_zero, List.set_cons_succ, List.getElem_cons_zero, List.getElem_cons_succ, List.getElem_toArray]
        refine wpAnyH_take (i := 9) (v := .pointer (some ⟨w.heap.size, 0, none⟩)) rfl (by kernel_rfl) (by kernel_rfl) (by kernel_rfl) (fun _ _ _ h => h) (Or.inl ⟨by rfl, fun w' hSw => by (go_simp)⟩) hHeld ?_
        simp only [Act.put, List.setIfInBounds_toArray, List.set_cons_zero, List.set_cons_succ, List.getElem_cons_zero, List.getElem_cons_succ, List.getElem_toArray]
        refine wpAnyH_take (i := 10) (v := .pointer (some ⟨w.heap.size, cl, none⟩)) rfl (by kernel_rfl) (by kernel_rfl) (by kernel_rfl) (fun _ _ _ h => h) (Or.inl ⟨by rfl, fun w' hSw => by (go_simp)⟩) hHeld ?_
        simp only [Act.put, List.setIfInBounds_toArray, List.set_cons_zero, List.set_cons_succ, List.getElem_cons_zero, List.getElem_cons_succ, List.getElem_toArray]
        refine wpAnyH_take (i := 11) (v := .int .i64 (t.u cl)) rfl (by kernel_rfl) (by kernel_rfl) (by kernel_rfl) (fun _ _ _ h => h) (Or.inl ⟨by rfl, fun w' hSw => by (have y0 := hSw.t.cu cl c4; have yl := hSw.t.lt; go_simp)⟩) hHeld ?_
        simp only [Act.put, List.setIfInBounds_toArray, List.set_cons_zero, List.set_cons_succ, List.getElem_cons_zero, List.getElem_cons_succ, List.getElem_toArray]
        refine wpAnyH_ready (rs := [7]) (by kernel_rfl) (by simp) ?_
        refine AllReadyH.cons rfl (fun K hK => ?_) AllReadyH.nil
        go_simp
        refine Calls.mono (HBz.out _ (HQ2.out.next (drew_up _)).up) ?_
        rintro e w3 ⟨rfl, b3⟩
        have HQ3 : Hid (Hu2 w w3 t) := (HQ2.out.next (drew_up _)).next b3
        clear b3 HBz
        refine hK.out _ _ HQ3.out (fun hHeld => ?_)
        clear hK K
        refine wpAnyH_take (i := 12) (v := .bool (decide (t.u cl ≤ (bz : Int)))) rfl (by kernel_rfl) (by kernel_rfl) (by kernel_rfl) (fun _ _ _ h => h) (Or.inl ⟨by rfl, fun w' hSw => by (go_simp)⟩) hHeld ?_
        simp only [Act.put, List.setIfInBounds_toArray, List.set_cons_zero, List.set_cons_succ, List.getElem_cons_zero, List.getElem_cons_succ, List.getElem_toArray]
        refine wpAnyH_done (by kernel_rfl) ?_ _
        clear hHeld
        rw [hd1]
        go_wp2_with fail
        go_ret
        exact ⟨ret_bool HR.out, HQ3.out.up⟩
      · have hd1 : decide (t.u cl ≤ (bz : Int)) = false := by simpa using hd
        have HR : Hid _ := HYs.out hd
        refine wp_region_held_drew (S := fun Z => Hu2 w Z t) (by kernel_rfl) (HQ2.out.next (drew_up _)) (fun hHeld => ?_)
        refine wpAnyH_take (i := 0) (v := .slice (some ⟨b, f, none⟩) n cap) rfl (by kernel_rfl) (by kernel_rfl) (by kernel_rfl) (fun _ _ _ h => h) (Or.inl ⟨by rfl, fun w' hSw => by (go_simp)⟩) hHeld ?_
        simp only [Act.put, List.setIfInBounds_toArray, List.set_cons_zero, List.set_cons_succ, List.getElem_cons_zero, List.getElem_toArray]
        refine wpAnyH_take (i := 1) (v := .agg #[.int .i64 (t.u 0), .int .i64 (t.u 1), .int .i64 (t.u 2), .int .i64 (t.u 3), .int .i64 (t.l 0), .int .i64 (t.l 1), .int .i64 (t.l 2), .int .i64 (t.l 3), .int .i64 (t.b 0), .int .i64 (t.b 1), .int .i64 (t.b 2), .int .i64 (t.b 3), .int .i64 t.d]) rfl (by kernel_rfl) (by kernel_rfl) (by kernel_rfl) (fun _ _ _ h => h) (Or.inl ⟨by rfl, fun w' hSw => by (have k2 := hSw.t; have qu0 := k2.cu 0 (by decide); have qu1 := k2.cu 1 (by decide); have qu2 := k2.cu 2 (by decide); have qu3 := k2.cu 3 (by decide); have ql0 := k2.cl 0 (by decide); have ql1 := k2.cl 1 (by decide); have ql2 := k2.cl 2 (by decide); have ql3 := k2.cl 3 (by decide); have qb0 := k2.cb 0 (by decide); have qb1 := k2.cb 1 (by decide); have qb2 := k2.cb 2 (by decide); have qb3 := k2.cb 3 (by decide); have qd := k2.cd; have qz := k2.lt; clear k2; go_simp)⟩) hHeld ?_
        simp only [Act.put, List.setIfInBounds_toArray, List.set_cons_zero, List.set_cons_succ, List.getElem_cons_zero, List.getElem_cons_succ, List.getElem_toArray]
        refine wpAnyH_take (i := 2) (v := .slice a n ccap) rfl (by kernel_rfl) (by kernel_rfl) (by kernel_rfl) (fun _ _ _ h => h) (Or.inl ⟨by rfl, fun w' hSw => by (go_simp)⟩) hHeld ?_
        simp only [Act.put, List.setIfInBounds_toArray, List.set_cons_zero, List.set_cons_succ, List.getElem_cons_zero, List.getElem_cons_succ, List.getElem_toArray]
        refine wpAnyH_take (i := 3) (v := .int .i64 (cl : Int)) rfl (by kernel_rfl) (by kernel_rfl) (by kernel_rfl) (fun _ _ _ h => h) (Or.inl ⟨by rfl, fun w' hSw => by (go_simp)⟩) hHeld ?_
        simp only [Act.put, List.setIfInBounds_toArray, List.set_cons_zero, List.set_cons_succ, List.getElem_cons_zero, List.getElem_cons_succ, List.getElem_toArray]
        refine wpAnyH_take (i := 4) (v := .int .i64 y) rfl (by kernel_rfl) (by kernel_rfl) (by kernel_rfl) (fun _ _ _ h => h) (Or.inl ⟨by rfl, fun w' hSw => by (go_simp)⟩) hHeld ?_
        simp only [Act.put, List.setIfInBounds_toArray, List.set_cons_zero, List.set_cons_succ, List.getElem_cons_zero, List.getElem_cons_succ, List.getElem_toArray]
        refine wpAnyH_take (i := 5) (v := .int .i64 (j : Int)) rfl (by kernel_rfl) (by kernel_rfl) (by kernel_rfl) (fun _ _ _ h => h) (Or.inl ⟨by rfl, fun w' hSw => by (go_simp)⟩) hHeld ?_
        simp only [Act.put, List.setIfInBounds_toArray, List.set_cons_zero, List.set_cons_succ, List.getElem_cons_zero, List.getElem_cons_succ, List.getElem_toArray]
        refine wpAnyH_take (i := 6) (v := .int .i64 (y + (j : Int))) rfl (by kernel_rfl) (by kernel_rfl) (by kernel_rfl) (fun _ _ _ h => h) (Or.inl ⟨by rfl, fun w' hSw => by (go_simp)⟩) hHeld ?_
        simp only [Act.put, List.setIfInBounds_toArray, List.set_cons_zero, List.set_cons_succ, List.getElem_cons_zero, List.getElem_cons_succ, List.getElem_toArray]
        refine wpAnyH_take (i := 8) (v := .int .i64 (cl : Int)) rfl (by kernel_rfl) (by kernel_rfl) (by kernel_rfl) (fun _ _ _ h => h) (Or.inl ⟨by rfl, fun w' hSw => by (go_simp)⟩) hHeld ?_
        simp only [Act.put, List.setIfInBounds_toArray, List.set_cons_zero, List.set_cons_succ, List.getElem_cons_zero, List.getElem_cons_succ, List.getElem_toArray]
        refine wpAnyH_take (i := 9) (v := .pointer (some ⟨w.heap.size, 0, none⟩)) rfl (by kernel_rfl) (by kernel_rfl) (by kernel_rfl) (fun _ _ _ h => h) (Or.inl ⟨by rfl, fun w' hSw => by (go_simp)⟩) hHeld ?_
        simp only [Act.put, List.setIfInBounds_toArray, List.set_cons_zero, List.set_cons_succ, List.getElem_cons_zero, List.getElem_cons_succ, List.getElem_toArray]
        refine wpAnyH_take (i := 10) (v := .pointer (some ⟨w.heap.size, cl, none⟩)) rfl (by kernel_rfl) (by kernel_rfl) (by kernel_rfl) (fun _ _ _ h => h) (Or.inl ⟨by rfl, fun w' hSw => by (go_simp)⟩) hHeld ?_
        simp only [Act.put, List.setIfInBounds_toArray, List.set_cons_zero, List.set_cons_succ, List.getElem_cons_zero, List.getElem_cons_succ, List.getElem_toArray]
        refine wpAnyH_take (i := 11) (v := .int .i64 (t.u cl)) rfl (by kernel_rfl) (by kernel_rfl) (by kernel_rfl) (fun _ _ _ h => h) (Or.inl ⟨by rfl, fun w' hSw => by (have y0 := hSw.t.cu cl c4; have yl := hSw.t.lt; go_simp)⟩) hHeld ?_
        simp only [Act.put, List.setIfInBounds_toArray, List.set_cons_zero, List.set_cons_succ, List.getElem_cons_zero, List.getElem_cons_succ, List.getElem_toArray]
        refine wpAnyH_ready (rs := [7]) (by kernel_rfl) (by simp) ?_
        refine AllReadyH.cons rfl (fun K hK => ?_) AllReadyH.nil
        go_simp
        refine Calls.mono (HBz.out _ (HQ2.out.next (drew_up _)).up) ?_
        rintro e w3 ⟨rfl, b3⟩
        have HQ3 : Hid (Hu2 w w3 t) := (HQ2.out.next (drew_up _)).next b3
        clear b3 HBz
        refine hK.out _ _ HQ3.out (fun hHeld => ?_)
        clear hK K
        refine wpAnyH_take (i := 12) (v := .bool (decide (t.u cl ≤ (bz : Int)))) rfl (by kernel_rfl) (by kernel_rfl) (by kernel_rfl) (fun _ _ _ h => h) (Or.inl ⟨by rfl, fun w' hSw => by (go_simp)⟩) hHeld ?_
        simp only [Act.put, List.setIfInBounds_toArray, List.set_cons_zero, List.set_cons_succ, List.getElem_cons_zero, List.getElem_cons_succ, List.getElem_toArray]
        refine wpAnyH_done (by kernel_rfl) ?_ _
        clear hHeld
        rw [hd1]
        go_wp2_with fail
        go_roundw
        case rel => exact ⟨j + 1, by omega, by go_num, HR.out, HQ3.out⟩
        case measure => simp [intOf]; omega
    · obtain rfl : j = B := by omega
      have j1 : ¬ (j : Int) < (j : Int) := by omega
      have hr0 : true = (List.range j).all fun k => decide ((busy s g cl (y + (k : Nat)) : Int) < t.u cl) := by
        symm
        refine List.all_eq_true.2 fun k hk => ?_
        simpa using HAl.out k (List.mem_range.1 hk)
      have HR : Hid (true = (List.range j).all fun k => decide ((busy s g cl (y + (k : Nat)) : Int) < t.u cl)) := hr0
      clear hr0
      go_wp2_with fail
      go_ret
      exact ⟨ret_bool HR.out, HQ2.out.up⟩
end Go.Proofs.YtnckkhamkkaljaaGreatDoor.Ls

namespace Go.Proofs.YtnckkhamkkaljaaGreatDoor.Ls
open Go.ChangeShapes Go.WideShapes Go.ChangeAt Go.RowKit
open _root_.Go.Proofs.YtnckkhamkkaljaaGreatDoor.Op _root_.Go.Proofs.YtnckkhamkkaljaaGreatDoor.So _root_.Go.Proofs.YtnckkhamkkaljaaGreatDoor.Dp _root_.Go.Proofs.YtnckkhamkkaljaaGreatDoor.ListWay
open _root_.Go.Proofs.YtnckkhamkkaljaaGreatDoor.Tb (Tab TabAt Bnds)
set_option maxRecDepth 20000

theorem dOrd_same {H : Nat → Int} {n k k' : Nat} {m m' : Int} (h1 : m - k < 0) (h2 : m' - k' < 0) (hH : ∀ i, i < n → 0 ≤ H i ∧ H i ≤ m) (hH' : ∀ i, i < n → 0 ≤ H i ∧ H i ≤ m') : dOrd H n m k = dOrd H n m' k' := by
  refine pw_uniq (ahd_asym H) _ _ (dOrd_pw H n m k) (dOrd_pw H n m' k') fun x => ?_
  rw [dOrd_mem, dOrd_mem]
  constructor
  · rintro ⟨j, hj, rfl, -, -⟩
    have := hH' j hj
    exact ⟨j, hj, rfl, by omega, by omega⟩
  · rintro ⟨j, hj, rfl, -, -⟩
    have := hH j hj
    exact ⟨j, hj, rfl, by omega, by omega⟩
/-- The document's way in memory. -/
structure Dy (w W : World) (t : Tab) (ea : Option Addr) (ec : Nat) (es : List Ed) (oa : Option Addr) (oc : Nat) (L : List Int) (cb n : Nat) (c : Nat → Int) : Prop where
  t : TabAt W w.heap.size t
  up : Below w.heap.size w W
  eo : EOwn w.heap.size W ea ec es
  en : ∀ b, (Value.slice ea es.length ec).ownBlock = some b → b < cb
  od : W.ownsRow w.heap.size 3 1 (.slice oa L.length oc) L.length (L.map (Value.int .i64))
  on : ∀ b, (Value.slice oa L.length oc).ownBlock = some b → b < cb
  ir : Ir W cb n c
  lb : w.heap.size < cb
theorem Dy.next {w W W' : World} {t : Tab} {ea : Option Addr} {ec : Nat} {es : List Ed} {oa : Option Addr} {oc : Nat} {L : List Int} {cb n : Nat} {c : Nat → Int} (h : Dy w W t ea ec es oa oc L cb n c) (g : Below W.heap.size W W') : Dy w W' t ea ec es oa oc L cb n c := ⟨h.t.below g h.t.lt, h.up.trans (g.mono h.up.size), row_up h.eo g, h.en, row_up h.od g, h.on, h.ir.up g, h.lb⟩
theorem Dy.set {w W : World} {t : Tab} {ea : Option Addr} {ec : Nat} {es : List Ed} {oa : Option Addr} {oc : Nat} {L : List Int} {cb n : Nat} {c : Nat → Int} (h : Dy w W t ea ec es oa oc L cb n c) {k : Nat} (hk : k < n) (v : Int) : Dy w (W.setCell ⟨cb, k, none⟩ (.int .i64 v)) t ea ec es oa oc L cb n (updI c k v) := by
  have g : Fr (One cb) W (W.setCell ⟨cb, k, none⟩ (.int .i64 v)) := (Fr.refl (One cb) W).setCell (.inr rfl) _ _
  have hb : Below cb W (W.setCell ⟨cb, k, none⟩ (.int .i64 v)) := g.below (Nat.le_of_lt h.ir.lt) fun j hj e => by have e : j = cb := e; omega
  exact ⟨h.t.below hb h.lb, h.up.trans (hb.mono (Nat.le_of_lt h.lb)), row_fr h.eo g fun b hb' e => by have := h.en b hb'; have e : b = cb := e; omega, h.en, row_fr h.od g fun b hb' e => by have := h.on b hb'; have e : b = cb := e; omega, h.on, h.ir.set hk v, h.lb⟩
theorem Dy.same {w W : World} {t : Tab} {ea : Option Addr} {ec : Nat} {es : List Ed} {oa : Option Addr} {oc : Nat} {L : List Int} {cb n : Nat} {c d : Nat → Int} (h : Dy w W t ea ec es oa oc L cb n c) (e : ∀ i, i < n → c i = d i) : Dy w W t ea ec es oa oc L cb n d := ⟨h.t, h.up, h.eo, h.en, h.od, h.on, h.ir.same e, h.lb⟩
theorem Dy.ord {w W : World} {t : Tab} {ea : Option Addr} {ec : Nat} {es : List Ed} {oa : Option Addr} {oc : Nat} {L : List Int} {cb n : Nat} {c : Nat → Int} (h : Dy w W t ea ec es oa oc L cb n c) (k : Nat) (hk : k < L.length) : ∃ b, oa = some ⟨b, 0, none⟩ ∧ b < W.heap.size ∧ W.cell? ⟨b, k, none⟩ = some (.int .i64 L[k]) := by
  rcases h.od.2 with ⟨-, e0⟩ | ⟨b, cap2, cur, e, -⟩
  · omega
  · injection e with e1 _ _
    subst e1
    refine ⟨b, rfl, (h.od.lt b rfl).2, ?_⟩
    rw [h.od.cellAt k (by omega)]
    simp [hk]
def ngTo (k : Nat) : Nat → Int := fun i => if i < k then -1 else 0
theorem ngTo_next (k : Nat) : updI (ngTo k) k (-1) = ngTo (k + 1) := by
  funext i
  unfold updI ngTo
  by_cases e : i = k
  · subst e; rw [if_pos rfl, if_pos (by omega)]
  · rw [if_neg e]
    by_cases e2 : i < k
    · rw [if_pos e2, if_pos (by omega)]
    · rw [if_neg e2, if_neg (by omega)]
theorem refCycles_no (ao : Option Addr) (cap : Nat) (xs : List O) (t : Tab) (w : World) (h : OpsAt w ao xs) (he : ¬ lisE t xs = 0) :
    Calls Tryz.prog 7 #[.slice ao xs.length cap, t.val] w fun e w' => e = .returned (.tuple #[.slice none 0 0, .int .i64 (lisE t xs)]) ∧ Below w.heap.size w w' := by
  have HO1 : Hid (∀ W, Below w.heap.size w W → Calls Tryz.prog 15 #[.slice ao xs.length cap, .agg #[.int .i64 (t.u 0), .int .i64 (t.u 1), .int .i64 (t.u 2), .int .i64 (t.u 3), .int .i64 (t.l 0), .int .i64 (t.l 1), .int .i64 (t.l 2), .int .i64 (t.l 3), .int .i64 (t.b 0), .int .i64 (t.b 1), .int .i64 (t.b 2), .int .i64 (t.b 3), .int .i64 t.d]] W fun e w' => e = .returned (.tuple #[.slice none 0 0, .int .i64 (lisE t xs)]) ∧ Below W.heap.size W w') := fun W hb => refOrd_no ao cap xs.length t _ W he fun W' hb' => refHof_no ao cap xs t W' ((h.below hb).below hb') he
  have hne : (lisE t xs != 0) = true := by simpa using he
  clear h
  generalize lisE t xs = er at *
  unfold Tab.val at *
  go_enter Tryz.func7, Tryz.ntmps7
  go_wp2_with (first
    | (go_at_call 15; refine Calls.mono (HO1.out _ (by go_grown)) ?_; rintro e w1 ⟨rfl, b1⟩; have HT : Hid (Below w.heap.size w w1) := Below.trans (by go_grown) (b1.mono (by simp)); clear b1 HO1))
  go_ret2
  exact ⟨rfl, HT.out⟩
theorem refOrd_do (ao : Option Addr) (cap : Nat) (xs : List O) (t : Tab) (w : World) (h : OpsAt w ao xs) (hq : xs.length ≤ 60) (he : lisE t xs = 0) : Calls Tryz.prog 15 #[.slice ao xs.length cap, t.val] w fun e w' => ∃ a c, e = .returned (.tuple #[.slice a (dOrd (hts (latN t xs) (ofE t xs)) xs.length (8 * (xs.length : Int)) (8 * xs.length + 1)).length c, .int .i64 0]) ∧ w'.ownsRow w.heap.size 3 1 (.slice a (dOrd (hts (latN t xs) (ofE t xs)) xs.length (8 * (xs.length : Int)) (8 * xs.length + 1)).length c) (dOrd (hts (latN t xs) (ofE t xs)) xs.length (8 * (xs.length : Int)) (8 * xs.length + 1)).length ((dOrd (hts (latN t xs) (ofE t xs)) xs.length (8 * (xs.length : Int)) (8 * xs.length + 1)).map (Value.int .i64)) ∧ Below w.heap.size w w' := by
  obtain ⟨ht, hn, hok⟩ := lis_all he
  have hEO := (lis_parts h.ok he).1
  have hle := (hts_is (lat := latN t xs) hEO).le hEO (fun i hi => by rw [latN_at t hi]; exact latV_in ht _)
  refine (refOrd_ok ao cap xs.length t _ w (by omega) (fun i hi => by have := hle i hi; omega) fun W hb => refHof_ok ao cap xs t W (h.below hb) (by omega) he).mono fun e w' h' => ?_
  obtain ⟨a, c, L, rfl, hrow, ⟨most, k, hL, hk, hH⟩, hb⟩ := h'
  have e1 : L = dOrd (hts (latN t xs) (ofE t xs)) xs.length (8 * (xs.length : Int)) (8 * xs.length + 1) := by
    rw [hL]
    exact dOrd_same hk (by omega) hH fun i hi => by have := hle i hi; omega
  rw [← e1]
  exact ⟨a, c, rfl, hrow, hb⟩
set_option maxHeartbeats 4000000 in
theorem refCycles_unit (ao : Option Addr) (cap : Nat) (xs : List O) (t : Tab) (w : World) (h : OpsAt w ao xs) (hq : xs.length ≤ 60) (he : lisE t xs = 0) (hu : hvU t xs = false) :
    Calls Tryz.prog 7 #[.slice ao xs.length cap, t.val] w fun e w' => e = .returned (.tuple #[.slice none 0 0, .int .i64 21]) ∧ Below w.heap.size w w' := by
  obtain ⟨L, hL⟩ : ∃ L, dOrd (hts (latN t xs) (ofE t xs)) xs.length (8 * (xs.length : Int)) (8 * xs.length + 1) = L := ⟨_, rfl⟩
  have HO1 : Hid (∀ W, Below w.heap.size w W → Calls Tryz.prog 15 #[.slice ao xs.length cap, .agg #[.int .i64 (t.u 0), .int .i64 (t.u 1), .int .i64 (t.u 2), .int .i64 (t.u 3), .int .i64 (t.l 0), .int .i64 (t.l 1), .int .i64 (t.l 2), .int .i64 (t.l 3), .int .i64 (t.b 0), .int .i64 (t.b 1), .int .i64 (t.b 2), .int .i64 (t.b 3), .int .i64 t.d]] W fun e w' => ∃ a c, e = .returned (.tuple #[.slice a L.length c, .int .i64 0]) ∧ w'.ownsRow W.heap.size 3 1 (.slice a L.length c) L.length (L.map (Value.int .i64)) ∧ Below W.heap.size W w') := fun W hb => by rw [← hL]; exact refOrd_do ao cap xs t W (h.below hb) hq he
  have HU : Hid (∀ W, Below w.heap.size w W → Calls Tryz.prog 16 #[.slice ao xs.length cap, .agg #[.int .i64 (t.u 0), .int .i64 (t.u 1), .int .i64 (t.u 2), .int .i64 (t.u 3), .int .i64 (t.l 0), .int .i64 (t.l 1), .int .i64 (t.l 2), .int .i64 (t.l 3), .int .i64 (t.b 0), .int .i64 (t.b 1), .int .i64 (t.b 2), .int .i64 (t.b 3), .int .i64 t.d]] W fun e w' => e = .returned (.bool true) ∧ Below W.heap.size W w') := fun W hb => by
    have := uses_any ao cap xs t W (h.below hb) (lis_all he).2.2 (by omega)
    rw [hu] at this
    exact this
  clear h hL
  unfold Tab.val at *
  go_enter Tryz.func7, Tryz.ntmps7
  go_wp2_with (first
    | (go_at_call 15; refine Calls.mono (HO1.out _ (by go_grown)) ?_; rintro e w1 ⟨oa, oc, rfl, -, b1⟩; have HT : Hid (TabAt w1 w.heap.size t ∧ Below w.heap.size w w1) := tabNext ⟨Tb.tabAt_new w t 25, by go_grown⟩ b1; clear b1 HO1; have k2 := HT.out.1; have qu0 := k2.cu 0 (by decide); have qu1 := k2.cu 1 (by decide); have qu2 := k2.cu 2 (by decide); have qu3 := k2.cu 3 (by decide); have ql0 := k2.cl 0 (by decide); have ql1 := k2.cl 1 (by decide); have ql2 := k2.cl 2 (by decide); have ql3 := k2.cl 3 (by decide); have qb0 := k2.cb 0 (by decide); have qb1 := k2.cb 1 (by decide); have qb2 := k2.cb 2 (by decide); have qb3 := k2.cb 3 (by decide); have qd := k2.cd; have qz := k2.lt; clear k2)
    | (go_at_call 16; refine Calls.mono (HU.out _ HT.out.2) ?_; rintro e w2 ⟨rfl, b2⟩; have HB2 : Hid (Below w.heap.size w w2) := (tabNext HT.out b2).2; clear b2 HU HT qu0 qu1 qu2 qu3 ql0 ql1 ql2 ql3 qb0 qb1 qb2 qb3 qd qz))
  go_ret2
  exact ⟨rfl, HB2.out⟩
theorem rowB {W : World} {B B' e s n : Nat} {v : Value} {xs : List Value} (h : W.ownsRow B e s v n xs) (hB : B' ≤ B) : W.ownsRow B' e s v n xs := by
  obtain ⟨h1, h2⟩ := h
  rcases h2 with h0 | ⟨g, cap, cur, e1, e2, e3⟩
  · exact ⟨h1, .inl h0⟩
  · exact ⟨h1, .inr ⟨g, cap, cur, e1, by omega, e3⟩⟩
set_option maxHeartbeats 32000000 in
theorem refCycles_ok (ao : Option Addr) (cap : Nat) (xs : List O) (t : Tab) (w : World) (h : OpsAt w ao xs) (hq : xs.length ≤ 60) (he : lisE t xs = 0) (hu : hvU t xs = true) :
    Calls Tryz.prog 7 #[.slice ao xs.length cap, t.val] w (HtOut w xs.length (cyL t xs)) := by
  obtain ⟨ht, -, hok⟩ := lis_all he
  obtain ⟨hEO, hEl, -⟩ := lis_parts h.ok he
  have hSok := sysL_ok ht hu hEO
  have hmem := ordC_mem h.ok he
  obtain ⟨L, hL⟩ : ∃ L, dOrd (hts (latN t xs) (ofE t xs)) xs.length (8 * (xs.length : Int)) (8 * xs.length + 1) = L := ⟨_, rfl⟩
  have hLp : ∀ x ∈ L, 0 ≤ x := fun x hx => by
    rw [← hL] at hx
    obtain ⟨j, -, rfl, -, -⟩ := (dOrd_mem _ _ _ _ _).1 hx
    omega
  have HO1 : Hid (∀ W, Below w.heap.size w W → Calls Tryz.prog 15 #[.slice ao xs.length cap, .agg #[.int .i64 (t.u 0), .int .i64 (t.u 1), .int .i64 (t.u 2), .int .i64 (t.u 3), .int .i64 (t.l 0), .int .i64 (t.l 1), .int .i64 (t.l 2), .int .i64 (t.l 3), .int .i64 (t.b 0), .int .i64 (t.b 1), .int .i64 (t.b 2), .int .i64 (t.b 3), .int .i64 t.d]] W fun e w' => ∃ a c, e = .returned (.tuple #[.slice a L.length c, .int .i64 0]) ∧ w'.ownsRow W.heap.size 3 1 (.slice a L.length c) L.length (L.map (Value.int .i64)) ∧ Below W.heap.size W w') := fun W hb => by rw [← hL]; exact refOrd_do ao cap xs t W (h.below hb) hq he
  obtain ⟨ord, hord⟩ : ∃ ord, ordC (hts (latN t xs) (ofE t xs)) xs.length = ord := ⟨_, rfl⟩
  have hLo : L.map Int.toNat = ord := by rw [← hL, ← hord]; rfl
  have HLo : Hid (∀ k (hk : k < L.length), ∃ hk2 : k < ord.length, L[k] = ((ord[k] : Nat) : Int)) := fun k hk => by
    subst hLo
    refine ⟨by simpa using hk, ?_⟩
    have := hLp _ (List.getElem_mem hk)
    simp
    omega
  have HLl : Hid (ord.length = L.length) := by show ord.length = L.length; rw [← hLo]; simp
  have HU : Hid (∀ W, Below w.heap.size w W → Calls Tryz.prog 16 #[.slice ao xs.length cap, .agg #[.int .i64 (t.u 0), .int .i64 (t.u 1), .int .i64 (t.u 2), .int .i64 (t.u 3), .int .i64 (t.l 0), .int .i64 (t.l 1), .int .i64 (t.l 2), .int .i64 (t.l 3), .int .i64 (t.b 0), .int .i64 (t.b 1), .int .i64 (t.b 2), .int .i64 (t.b 3), .int .i64 t.d]] W fun e w' => e = .returned (.bool false) ∧ Below W.heap.size W w') := fun W hb => by
    have := uses_any ao cap xs t W (h.below hb) hok (by omega)
    rw [hu] at this
    exact this
  obtain ⟨M, hM⟩ : ∃ M, (ofE t xs).length = M := ⟨_, rfl⟩
  have HM : Hid ((ofE t xs).length = M) := hM
  have HOf : Hid (∀ W, Below w.heap.size w W → Calls Tryz.prog 17 #[.slice ao xs.length cap, .agg #[.int .i64 (t.u 0), .int .i64 (t.u 1), .int .i64 (t.u 2), .int .i64 (t.u 3), .int .i64 (t.l 0), .int .i64 (t.l 1), .int .i64 (t.l 2), .int .i64 (t.l 3), .int .i64 (t.b 0), .int .i64 (t.b 1), .int .i64 (t.b 2), .int .i64 (t.b 3), .int .i64 t.d]] W fun e w' => ∃ a c, e = .returned (.tuple #[.slice a M c, .int .i64 0]) ∧ EOwn W.heap.size w' a c (ofE t xs) ∧ Below W.heap.size W w') := fun W hb => by
    have := ofRefN (cap := cap) (t := t) h (fun _ => by omega) W hb
    unfold erE at this
    rw [if_pos he, he] at this
    rw [← hM]
    exact this
  have hcy : cyL t xs = sch (sysL t xs (ofE t xs)) ord := by unfold cyL; rw [hord]
  rw [hcy]
  rw [hord] at hmem
  obtain ⟨s, hs⟩ : ∃ s, sysL t xs (ofE t xs) = s := ⟨_, rfl⟩
  have hsn : s.n = xs.length := by rw [← hs]; rfl
  have HFr0 : Hid (∀ Z cb (c : Nat → Int) (i : Nat) (y : Int), Below w.heap.size w Z → Ir Z cb xs.length c → (∀ i, i < xs.length → -1 ≤ c i ∧ c i ≤ 100000) → i < xs.length → 0 ≤ y → y ≤ 100000 → Calls Tryz.prog 19 #[.slice ao xs.length cap, .agg #[.int .i64 (t.u 0), .int .i64 (t.u 1), .int .i64 (t.u 2), .int .i64 (t.u 3), .int .i64 (t.l 0), .int .i64 (t.l 1), .int .i64 (t.l 2), .int .i64 (t.l 3), .int .i64 (t.b 0), .int .i64 (t.b 1), .int .i64 (t.b 2), .int .i64 (t.b 3), .int .i64 t.d], .slice (some ⟨cb, 0, none⟩) xs.length xs.length, .int .i64 (i : Int), .int .i64 y] Z fun e w' => e = .returned (.bool (fdB s c y i)) ∧ Below Z.heap.size Z w') := fun Z cb c i y q1 q2 q3 q4 q5 q6 => by
    rw [← hs]
    exact dfree_any ao cap xs t (ofE t xs) (some ⟨cb, 0, none⟩) xs.length c i y Z (h.below q1) hok (by omega) ht (Nl.of q2 fun k hk => by have := q3 k hk; omega) q3 q4 q5 q6
  have HRd0 : Hid (∀ Z cb ea ec (c : Nat → Int) (i : Nat) (y : Int), EOwn w.heap.size Z ea ec (ofE t xs) → Ir Z cb xs.length c → (∀ i, i < xs.length → -1 ≤ c i ∧ c i ≤ 100000) → i < xs.length → 0 ≤ y → y ≤ 100000 → Calls Tryz.prog 18 #[.slice ea M ec, .slice (some ⟨cb, 0, none⟩) xs.length xs.length, .int .i64 (i : Int), .int .i64 y] Z fun e w' => e = .returned (.bool (rdB (ofE t xs) c y i)) ∧ Below Z.heap.size Z w') := fun Z cb ea ec c i y q1 q2 q3 q4 q5 q6 => by
    rw [← hM]
    exact dready_any ea ec w.heap.size (ofE t xs) cb xs.length i c y Z q1 hEO hEl q2 q3 (by omega) q4 q5 q6
  have HSp : Hid (∀ (c : Nat → Int) (y : Int) (i : Nat), okB s c y i = (decide (c i < 0) && (rdB (ofE t xs) c y i && fdB s c y i))) := fun c y i => by
    rw [← hs, ← rf_split]
    rfl
  rw [hs] at hSok ⊢
  have HOk : Hid (s.Ok ∧ (∀ i, i ∈ ord ↔ i < s.n) ∧ s.n = xs.length) := ⟨hSok, by rw [hsn]; exact hmem, hsn⟩
  have hn' : (xs.length : Int) ≤ 60 := by omega
  have hLlen : L.length ≤ 1000000 := by
    rw [← hL]
    have := dOrd_len (hts (latN t xs) (ofE t xs)) xs.length (8 * (xs.length : Int)) (8 * xs.length + 1)
    have h2 : (8 * xs.length + 1) * xs.length ≤ 481 * 60 := Nat.mul_le_mul (by omega) hq
    omega
  have hLi : (L.length : Int) ≤ 1000000 := by omega
  obtain ⟨i0, hi, hi2⟩ := Option.map_eq_some_iff.1 info3
  simp only [Prod.mk.injEq] at hi2
  obtain ⟨hz0, hz1, hz2⟩ := hi2
  have HI : Hid (Tryz.prog.info? 3 = some i0 ∧ i0.zero = some (.int .i64 0) ∧ i0.size = 1 ∧ i0.bytes = 8) := ⟨hi, hz0, hz1, hz2⟩
  clear h hq he hu ht hok hEO hEl hSok hmem hL hLp hord hLo hM hcy hs hsn hLlen hi hz0 hz1 hz2
  generalize ofE t xs = es at *
  generalize xs.length = n at *
  unfold HtOut
  unfold Tab.val
  go_enter Tryz.func7, Tryz.ntmps7
  go_upto_region 8 with (first
    | (go_at_call 15; refine Calls.mono (HO1.out _ (by go_grown)) ?_; rintro e w1 ⟨oa, oc, rfl, o1, b1⟩; have HT : Hid (TabAt w1 w.heap.size t ∧ Below w.heap.size w w1) := tabNext ⟨Tb.tabAt_new w t 25, by go_grown⟩ b1; have HR1 : Hid (w1.ownsRow w.heap.size 3 1 (.slice oa L.length oc) L.length (L.map (Value.int .i64))) := rowB o1 (by simp); clear b1 o1 HO1; have k2 := HT.out.1; have qu0 := k2.cu 0 (by decide); have qu1 := k2.cu 1 (by decide); have qu2 := k2.cu 2 (by decide); have qu3 := k2.cu 3 (by decide); have ql0 := k2.cl 0 (by decide); have ql1 := k2.cl 1 (by decide); have ql2 := k2.cl 2 (by decide); have ql3 := k2.cl 3 (by decide); have qb0 := k2.cb 0 (by decide); have qb1 := k2.cb 1 (by decide); have qb2 := k2.cb 2 (by decide); have qb3 := k2.cb 3 (by decide); have qd := k2.cd; have qz := k2.lt; clear k2)
    | (go_at_call 16; refine Calls.mono (HU.out _ HT.out.2) ?_; rintro e w2 ⟨rfl, b2⟩; have HT2 : Hid (TabAt w2 w.heap.size t ∧ Below w.heap.size w w2) := tabNext HT.out b2; have HR2 : Hid (w2.ownsRow w.heap.size 3 1 (.slice oa L.length oc) L.length (L.map (Value.int .i64))) := row_up HR1.out b2; clear b2 HU HT HR1 qu0 qu1 qu2 qu3 ql0 ql1 ql2 ql3 qb0 qb1 qb2 qb3 qd qz; have k2 := HT2.out.1; have qu0 := k2.cu 0 (by decide); have qu1 := k2.cu 1 (by decide); have qu2 := k2.cu 2 (by decide); have qu3 := k2.cu 3 (by decide); have ql0 := k2.cl 0 (by decide); have ql1 := k2.cl 1 (by decide); have ql2 := k2.cl 2 (by decide); have ql3 := k2.cl 3 (by decide); have qb0 := k2.cb 0 (by decide); have qb1 := k2.cb 1 (by decide); have qb2 := k2.cb 2 (by decide); have qb3 := k2.cb 3 (by decide); have qd := k2.cd; have qz := k2.lt; clear k2)
    | (go_at_call 17; refine Calls.mono (HOf.out _ HT2.out.2) ?_; rintro e w3 ⟨ea, ec, rfl, o3, b3⟩; have HT3 : Hid (TabAt w3 w.heap.size t ∧ Below w.heap.size w w3) := tabNext HT2.out b3; have HR3 : Hid (w3.ownsRow w.heap.size 3 1 (.slice oa L.length oc) L.length (L.map (Value.int .i64)) ∧ EOwn w.heap.size w3 ea ec es) := ⟨row_up HR2.out b3, rowB o3 HT2.out.2.size⟩; clear b3 o3 HOf HT2 HR2 qu0 qu1 qu2 qu3 ql0 ql1 ql2 ql3 qb0 qb1 qb2 qb3 qd qz)
    | (at_make; refine wpList_make_row _ rfl _ _ 28 rfl 3 i0 (.int .i64 0) Tryz.underlying28 HI.out.1 HI.out.2.1 HI.out.2.2.1 rfl .i64 .i64 n rfl rfl (by rw [HI.out.2.2.2]; omega) (by omega) ?_))
  have HS : Hid (Dy w (w3.alloc (.cells (madeCells #[.int .i64 0] n) 3)) t ea ec es oa oc L w3.heap.size n (ngTo 0)) := by
    have g : Below w3.heap.size w3 (w3.alloc (.cells (madeCells #[.int .i64 0] n) 3)) := (Below.refl _ _).alloc (Nat.le_refl _) _
    exact ⟨HT3.out.1.below g HT3.out.1.lt, HT3.out.2.trans (g.mono HT3.out.2.size), row_up HR3.out.2 g, fun b hb => (HR3.out.2.lt b hb).2, row_up HR3.out.1 g, fun b hb => (HR3.out.1.lt b hb).2, (Ir.new w3 n 3).same (fun k hk => by unfold ngTo; rw [if_neg (by omega)]), HT3.out.1.lt⟩
  generalize w3.alloc (.cells (madeCells #[.int .i64 0] n) 3) = W0 at *
  generalize w3.heap.size = cb at *
  clear HT3 HR3
  go_wp2_with fail
  go_loopw [11] (fun v wr => ∃ k : Nat, k ≤ n ∧ v = .int .i64 k ∧ Dy w wr t ea ec es oa oc L cb n (ngTo k)) (fun v _ => n - (intOf v).toNat)
  case atStart => exact ⟨0, by omega, rfl, HS.out⟩
  case round =>
    rename World => wr
    obtain ⟨k, hk, rfl, hs⟩ := hrel
    have HQ : Hid (Dy w wr t ea ec es oa oc L cb n (ngTo k)) := hs
    clear hs HS
    by_cases hlt : k < n
    · have k0 : (0 : Int) ≤ (k : Int) := by omega
      have k1 : (k : Int) < (n : Int) := by omega
      have cc := HQ.out.ir.c k hlt
      have cz := HQ.out.ir.f k
      have cl := HQ.out.ir.lt
      have HNx : Hid (updI (ngTo k) k (-1) = ngTo (k + 1)) := ngTo_next k
      go_wp2_with fail
      go_roundw
      case rel => exact ⟨k + 1, by omega, by go_num, by rw [← HNx.out]; exact HQ.out.set hlt _⟩
      case measure => simp [intOf]; omega
    · obtain rfl : k = n := by omega
      have k1 : ¬ (k : Int) < (k : Int) := by omega
      obtain ⟨n, hkn⟩ : ∃ n, k = n := ⟨_, rfl⟩
      subst hkn
      have HS0 : Hid (Dy w wr t ea ec es oa oc L cb k (fun _ => -1)) := HQ.out.same fun i hi => by unfold ngTo; rw [if_pos hi]
      have hp0 : ((k : Nat) : Int) = (k : Int) - (placed s (fun _ => -1) : Nat) := by
        have : placed s (fun _ => -1) = 0 := cnt_zero fun i _ => by simp
        rw [this]; omega
      have HP0 : Hid (((k : Nat) : Int) = (k : Int) - (placed s (fun _ => -1) : Nat)) := hp0
      clear hp0 HQ
      go_upto_region 14 with fail
      go_loopw [12, 13] (fun lv cv wr => ∃ (c : Nat → Int) (y : Int), lv = .int .i64 ((k : Int) - (placed s c : Nat)) ∧ cv = .int .i64 y ∧ Dy w wr t ea ec es oa oc L cb k c ∧ (∃ y0, OnWay s ord c y0) ∧ (placed s c < k → OnWay s ord c y) ∧ 0 ≤ y ∧ y ≤ 8 * (k : Int) + 1) (fun _ cv _ => (8 * (k : Int) + 2 - intOf cv).toNat)
      case atStart => exact ⟨fun _ => -1, 0, by rw [← HP0.out], rfl, HS0.out, ⟨0, OnWay.start s ord⟩, fun _ => OnWay.start s ord, by omega, by omega⟩
      case round =>
        rename World => wz
        obtain ⟨c, y, rfl, rfl, hd, hw0, hw, hy0, hy1⟩ := hrel
        have HD : Hid (Dy w wz t ea ec es oa oc L cb k c) := hd
        have HW0 : Hid (∃ y0, OnWay s ord c y0) := hw0
        have hple : placed s c ≤ k := by have := placed_le s c; have := HOk.out.2.2; omega
        by_cases hpl : placed s c < k
        · have l0 : (0 : Int) < (k : Int) - (placed s c : Nat) := by omega
          have HWz : Hid (OnWay s ord c y) := hw hpl
          clear hd hw0 hw HS0 HW0
          have hiv := HWz.out.inv HOk.out.1 HOk.out.2.1
          have hyp : y ≤ 8 * (k : Int) := by have h1 := hiv.yp; omega
          clear hiv
          go_upto_region 17 with fail
          go_loopw [12, 14] (fun lv kv wr => ∃ (c : Nat → Int) (m : Nat), lv = .int .i64 ((k : Int) - (placed s c : Nat)) ∧ kv = .int .i64 m ∧ m ≤ L.length ∧ Dy w wr t ea ec es oa oc L cb k c ∧ OnWay s ord c y ∧ ∀ (j : Nat) (hj : j < ord.length), j < m → okB s c y ord[j] = false) (fun lv kv _ => (intOf lv).toNat * (L.length + 2) + (L.length - (intOf kv).toNat))
          case atStart => exact ⟨c, 0, rfl, rfl, by omega, HD.out, HWz.out, fun j _ hj => by omega⟩
          case round =>
            rename World => wx
            obtain ⟨c, m, rfl, rfl, hm, hd, hw, hno⟩ := hrel
            have HQ : Hid (Dy w wx t ea ec es oa oc L cb k c) := hd
            have HWx : Hid (OnWay s ord c y) := hw
            have HNo : Hid (∀ (j : Nat) (hj : j < ord.length), j < m → okB s c y ord[j] = false) := hno
            have hiv := hw.inv HOk.out.1 HOk.out.2.1
            have hple2 : placed s c ≤ k := by have := placed_le s c; have := HOk.out.2.2; omega
            have HRg : Hid (∀ i, i < k → -1 ≤ c i ∧ c i ≤ 100000) := fun i hi => by
              have h1 := hiv.lo i (by rw [HOk.out.2.2]; exact hi)
              have h2 := hiv.le i (by rw [HOk.out.2.2]; exact hi)
              omega
            clear hd hw hno HD hiv
            by_cases hml : m < L.length
            · have m0 : (0 : Int) ≤ (m : Int) := by omega
              have m1 : (m : Int) < (L.length : Int) := by omega
              obtain ⟨hmo, hme⟩ := HLo.out m hml
              obtain ⟨ob, rfl, obl, obc⟩ := HQ.out.ord m hml
              rw [hme] at obc
              have hin : ord[m] < k := by rw [← HOk.out.2.2]; exact (HOk.out.2.1 _).1 (List.getElem_mem hmo)
              have HNx : Hid (okB s c y ord[m] = false → ∀ (j : Nat) (hj : j < ord.length), j < m + 1 → okB s c y ord[j] = false) := fun e j hj hjm => by
                rcases Nat.lt_or_ge j m with h | h
                · exact HNo.out j hj h
                · obtain rfl : j = m := by omega
                  exact e
              have HFd : Hid (okB s c y ord[m] = true → OnWay s ord (ListWay.upd c ord[m] y) y) := fun e => HWx.out.place HOk.out.2.1 (find_first hmo e fun j hj => HNo.out j (by omega) hj)
              have HAsk : Hid (okB s c y ord[m] = (decide (c ord[m] < 0) && (rdB es c y ord[m] && fdB s c y ord[m]))) := HSp.out c y ord[m]
              have HPl : Hid (c ord[m] < 0 → placed s (ListWay.upd c ord[m] y) = placed s c + 1) := fun e => placed_upd (by rw [HOk.out.2.2]; exact hin) e hy0
              generalize ord[m] = i at *
              have i0 : (0 : Int) ≤ (i : Int) := by omega
              have i1 : (i : Int) < (k : Int) := by omega
              have HRd : Hid (∀ Z, Dy w Z t ea ec es (some ⟨ob, 0, none⟩) oc L cb k c → Calls Tryz.prog 18 #[.slice ea M ec, .slice (some ⟨cb, 0, none⟩) k k, .int .i64 (i : Int), .int .i64 y] Z fun e w' => e = .returned (.bool (rdB es c y i)) ∧ Below Z.heap.size Z w') := fun Z hZ => HRd0.out Z cb ea ec c i y hZ.eo hZ.ir HRg.out hin hy0 (by omega)
              have HFr : Hid (∀ Z, Dy w Z t ea ec es (some ⟨ob, 0, none⟩) oc L cb k c → Calls Tryz.prog 19 #[.slice ao k cap, .agg #[.int .i64 (t.u 0), .int .i64 (t.u 1), .int .i64 (t.u 2), .int .i64 (t.u 3), .int .i64 (t.l 0), .int .i64 (t.l 1), .int .i64 (t.l 2), .int .i64 (t.l 3), .int .i64 (t.b 0), .int .i64 (t.b 1), .int .i64 (t.b 2), .int .i64 (t.b 3), .int .i64 t.d], .slice (some ⟨cb, 0, none⟩) k k, .int .i64 (i : Int), .int .i64 y] Z fun e w' => e = .returned (.bool (fdB s c y i)) ∧ Below Z.heap.size Z w') := fun Z hZ => HFr0.out Z cb c i y hZ.up hZ.ir HRg.out hin hy0 (by omega)
              have cc := HQ.out.ir.c i hin
              have clt := HQ.out.ir.lt
              by_cases hci : c i < 0
              · generalize rdB es c y i = rd at *
                generalize fdB s c y i = fd at *
                have HCn : Hid (c i < 0) := hci
                cases rd
                · have hv0 : okB s c y i = false := by rw [HAsk.out]; simp
                  have HV : Hid _ := HNx.out hv0
                  clear hv0
                  generalize hcv : c i = cv at *
                  go_wp2_with (first
            | (go_at_call 18; refine Calls.mono (HRd.out _ HQ.out) ?_; rintro e w2 ⟨rfl, b2⟩; have HQ2 : Hid (Dy w w2 t ea ec es (some ⟨ob, 0, none⟩) oc L cb k c) := HQ.out.next b2; clear b2 HRd HQ; have k2 := HQ2.out.t; have qu0 := k2.cu 0 (by decide); have qu1 := k2.cu 1 (by decide); have qu2 := k2.cu 2 (by decide); have qu3 := k2.cu 3 (by decide); have ql0 := k2.cl 0 (by decide); have ql1 := k2.cl 1 (by decide); have ql2 := k2.cl 2 (by decide); have ql3 := k2.cl 3 (by decide); have qb0 := k2.cb 0 (by decide); have qb1 := k2.cb 1 (by decide); have qb2 := k2.cb 2 (by decide); have qb3 := k2.cb 3 (by decide); have qd := k2.cd; have qz := k2.lt; clear k2)
            | (go_at_call 19; refine Calls.mono (HFr.out _ HQ2.out) ?_; rintro e w3 ⟨rfl, b3⟩; have HQ3 : Hid (Dy w w3 t ea ec es (some ⟨ob, 0, none⟩) oc L cb k c) := HQ2.out.next b3; clear b3 HFr HQ2 qu0 qu1 qu2 qu3 ql0 ql1 ql2 ql3 qb0 qb1 qb2 qb3 qd qz))
                  go_roundw
                  case rel => exact ⟨c, m + 1, rfl, by go_num, by omega, HQ2.out, HWx.out, HV.out⟩
                  case measure => simp [intOf]; omega
                · cases fd
                  · have hv0 : okB s c y i = false := by rw [HAsk.out]; simp
                    have HV : Hid _ := HNx.out hv0
                    clear hv0
                    generalize hcv : c i = cv at *
                    go_wp2_with (first
            | (go_at_call 18; refine Calls.mono (HRd.out _ HQ.out) ?_; rintro e w2 ⟨rfl, b2⟩; have HQ2 : Hid (Dy w w2 t ea ec es (some ⟨ob, 0, none⟩) oc L cb k c) := HQ.out.next b2; clear b2 HRd HQ; have k2 := HQ2.out.t; have qu0 := k2.cu 0 (by decide); have qu1 := k2.cu 1 (by decide); have qu2 := k2.cu 2 (by decide); have qu3 := k2.cu 3 (by decide); have ql0 := k2.cl 0 (by decide); have ql1 := k2.cl 1 (by decide); have ql2 := k2.cl 2 (by decide); have ql3 := k2.cl 3 (by decide); have qb0 := k2.cb 0 (by decide); have qb1 := k2.cb 1 (by decide); have qb2 := k2.cb 2 (by decide); have qb3 := k2.cb 3 (by decide); have qd := k2.cd; have qz := k2.lt; clear k2)
            | (go_at_call 19; refine Calls.mono (HFr.out _ HQ2.out) ?_; rintro e w3 ⟨rfl, b3⟩; have HQ3 : Hid (Dy w w3 t ea ec es (some ⟨ob, 0, none⟩) oc L cb k c) := HQ2.out.next b3; clear b3 HFr HQ2 qu0 qu1 qu2 qu3 ql0 ql1 ql2 ql3 qb0 qb1 qb2 qb3 qd qz))
                    go_roundw
                    case rel => exact ⟨c, m + 1, rfl, by go_num, by omega, HQ3.out, HWx.out, HV.out⟩
                    case measure => simp [intOf]; omega
                  · have hv0 : okB s c y i = true := by rw [HAsk.out]; simp [hci]
                    have HV : Hid _ := HFd.out hv0
                    have HP1 : Hid (placed s (ListWay.upd c i y) = placed s c + 1) := HPl.out hci
                    clear hv0
                    generalize hcv : c i = cv at *
                    go_upto_region 21 with (first
            | (go_at_call 18; refine Calls.mono (HRd.out _ HQ.out) ?_; rintro e w2 ⟨rfl, b2⟩; have HQ2 : Hid (Dy w w2 t ea ec es (some ⟨ob, 0, none⟩) oc L cb k c) := HQ.out.next b2; clear b2 HRd HQ; have k2 := HQ2.out.t; have qu0 := k2.cu 0 (by decide); have qu1 := k2.cu 1 (by decide); have qu2 := k2.cu 2 (by decide); have qu3 := k2.cu 3 (by decide); have ql0 := k2.cl 0 (by decide); have ql1 := k2.cl 1 (by decide); have ql2 := k2.cl 2 (by decide); have ql3 := k2.cl 3 (by decide); have qb0 := k2.cb 0 (by decide); have qb1 := k2.cb 1 (by decide); have qb2 := k2.cb 2 (by decide); have qb3 := k2.cb 3 (by decide); have qd := k2.cd; have qz := k2.lt; clear k2)
            | (go_at_call 19; refine Calls.mono (HFr.out _ HQ2.out) ?_; rintro e w3 ⟨rfl, b3⟩; have HQ3 : Hid (Dy w w3 t ea ec es (some ⟨ob, 0, none⟩) oc L cb k c) := HQ2.out.next b3; clear b3 HFr HQ2 qu0 qu1 qu2 qu3 ql0 ql1 ql2 ql3 qb0 qb1 qb2 qb3 qd qz))
                    have cc := HQ3.out.ir.c i hin
                    have cz := HQ3.out.ir.f i
                    have clt := HQ3.out.ir.lt
                    have hp1 := HP1.out
                    have hpk : placed s (ListWay.upd c i y) ≤ k := by have := placed_le s (ListWay.upd c i y); have := HOk.out.2.2; omega
                    go_wp2_with fail
                    go_roundw
                    case rel => exact ⟨ListWay.upd c i y, 0, by rw [HP1.out]; go_num, by first | rfl | go_num, by omega, HQ3.out.set hin y, HV.out, fun j _ hj => by omega⟩
                    case measure =>
                      simp [intOf]
                      obtain ⟨d, hd⟩ : ∃ d, k - placed s c = d + 1 := ⟨k - placed s c - 1, by omega⟩
                      rw [hd, Nat.add_sub_cancel, Nat.add_mul]
                      generalize d * (L.length + 2) = q
                      omega
              · have hv0 : okB s c y i = false := by rw [HAsk.out]; simp [hci]
                have HV : Hid _ := HNx.out hv0
                clear hv0 HRd HFr
                generalize hcv : c i = cv at *
                have hcd : decide (cv < 0) = false := by simpa using hci
                go_wp2_with fail
                go_roundw
                case rel => exact ⟨c, m + 1, rfl, by go_num, by omega, HQ.out, HWx.out, HV.out⟩
                case measure => simp [intOf]; omega
            · obtain rfl : m = L.length := by omega
              have m1 : ¬ ((L.length : Nat) : Int) < ((L.length : Nat) : Int) := by omega
              have hfn : ord.find? (okB s c y) = none := find_not fun j hj => HNo.out j hj (by rw [← HLl.out]; exact hj)
              have HFn : Hid (ord.find? (okB s c y) = none) := hfn
              clear hfn
              go_wp2_with fail
              go_roundw
              case rel => exact ⟨c, y + 1, rfl, by go_num, HQ.out, ⟨y, HWx.out⟩, fun hp => HWx.out.next (by rw [HOk.out.2.2]; exact hp) HFn.out, by omega, by omega⟩
              case measure => simp [intOf]; omega
        · have hpe : placed s c = k := by omega
          rw [hpe]
          have l0 : ¬ (0 : Int) < (k : Int) - ((k : Nat) : Int) := by omega
          have HFin : Hid (c = sch s ord) := by
            obtain ⟨y0, hy⟩ := hw0
            exact hy.done HOk.out.1 HOk.out.2.1 (by rw [HOk.out.2.2]; exact hpe)
          clear hd hw0 hw HS0
          go_wp2_with fail
          go_ret2
          refine ⟨cb, rfl, ?_, Nat.le_of_lt HD.out.lb, HD.out.up⟩
          rw [← HFin.out]
          exact HD.out.ir
end Go.Proofs.YtnckkhamkkaljaaGreatDoor.Ls
