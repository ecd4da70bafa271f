/- The statement ListOwn over the program: what is put into cycles keeps all dependences and all units. Conditions: the list lies in memory, the variables as the program lays them. -/
import Derived.Test.YtnckkhamkkaljaaDoorWg
import Derived.Test.YtnckkhamkkaljaaDoorKx
import Derived.Test.YtnckkhamkkaljaaDoorWk
namespace Go.Proofs.YtnckkhamkkaljaaDoor.Ls
open Go.ChangeShapes Go.WideShapes Go.ChangeAt Go.RowKit
open _root_.Go.Proofs.YtnckkhamkkaljaaDoor.Op _root_.Go.Proofs.YtnckkhamkkaljaaDoor.So _root_.Go.Proofs.YtnckkhamkkaljaaDoor.Dp _root_.Go.Proofs.YtnckkhamkkaljaaDoor.ListWay
open _root_.Go.Proofs.YtnckkhamkkaljaaDoor.Tb (Tab TabAt Bnds)
set_option maxRecDepth 20000

theorem hu2N {w W : World} {t : Tab} {n : Nat} (h : Hu2 w W t) : Hu2 w (W.drewN n) t := ⟨⟨h.t.cu, h.t.cl, h.t.cb, h.t.cd, h.t.lt⟩, ⟨h.up.os, h.up.tape, h.up.output, h.up.size, h.up.block⟩⟩

set_option maxHeartbeats 8000000 in
theorem busyL_any (ao : Option Addr) (cap : Nat) (xs : List O) (t : Tab) (es : List Ed) (a : Option Addr) (ccap : Nat) (g : Nat → Int) (k : Nat) (y : Int) (w : World) (h : OpsAt w ao xs) (hok : ∀ o ∈ xs, okL o = true) (hn : xs.length ≤ 1024) (ht : t.ok = true) (hg : Nl w a xs.length g) (hr : ∀ i, i < xs.length → 0 ≤ g i ∧ g i ≤ 100000) (hk : k < 4) (hy0 : 0 ≤ y) (hy1 : y ≤ 200000) :
    Calls Tryd.prog 14 #[.slice ao xs.length cap, t.val, .slice a xs.length ccap, .int .i64 (k : Int), .int .i64 y] w fun e w' => e = .returned (.int .i64 (busy (sysL t xs es) g k y : Int)) ∧ Below w.heap.size w w' := by
  have HO : Hid (OpsAt w ao xs) := h
  have HGl : Hid (Nl w a xs.length g) := hg
  have HRg : Hid (∀ i, i < xs.length → 0 ≤ g i ∧ g i ≤ 100000) := hr
  have HOk : Hid (∀ (i : Nat) (hi : i < xs.length), xs[i].Ok ∧ okL xs[i] = true) := fun i hi => ⟨h.ok _ (List.getElem_mem hi), hok _ (List.getElem_mem hi)⟩
  have hbk := Tb.inB_iff ((Tb.ok_parts ht).2 k hk).2.2
  have hn' : (xs.length : Int) ≤ 1024 := by omega
  have HS : Hid (Hu2 w (w.alloc (.cells t.cells 25)) t) := ⟨Tb.tabAt_new w t 25, (Below.refl _ _).alloc (Nat.le_refl _) _⟩
  have HCn : Hid (∀ p i, cnt p i ≤ i) := fun p i => by
    induction i with
    | zero => exact Nat.le_refl _
    | succ i ih => unfold cnt; split <;> omega
  clear h hg hr hok ht
  have hbu : busy (sysL t xs es) g k y = cnt (bsy (sysL t xs es) g k y) xs.length := rfl
  rw [hbu]
  clear hbu
  unfold Tab.val
  go_enter Tryd.func14, Tryd.ntmps14
  go_wp2_with fail
  generalize w.alloc (.cells t.cells 25) = W0 at *
  go_loopw [11, 12] (fun c v wr => ∃ i : Nat, i ≤ xs.length ∧ c = .int .i64 (cnt (bsy (sysL t xs es) g k y) i : Int) ∧ v = .int .i64 i ∧ Hu2 w wr t) (fun _ v _ => xs.length - (intOf v).toNat)
  case atStart => exact ⟨0, by omega, rfl, rfl, HS.out⟩
  case round =>
    rename World => wr
    obtain ⟨i, hi, rfl, rfl, hs⟩ := hrel
    have HQ : Hid (Hu2 w wr t) := hs
    clear hs HS
    by_cases hlt : i < xs.length
    · have i0 : (0 : Int) ≤ (i : Int) := by omega
      have i1 : (i : Int) < (xs.length : Int) := by omega
      obtain ⟨b, f, rfl, hz2, hx⟩ := (HO.out.below HQ.out.up).is (by omega)
      obtain ⟨q0, -, -, -, -⟩ := hx i hlt
      obtain ⟨ho, hol⟩ := HOk.out i hlt
      obtain ⟨hv1, hv2⟩ := clV_D hol
      have HC : Hid (∀ W, Calls Tryd.prog 13 #[.int .i8 xs[i].op] W fun e w' => e = .returned (.tuple #[.int .i64 (clN xs i : Int), .bool true]) ∧ Below W.heap.size W w') := fun W => by
        have h1 := class_any xs[i].op W ho.op0 ho.op1
        rw [hv1, hv2] at h1
        rw [clN_at hlt]
        exact h1
      have HBs : Hid (bsy (sysL t xs es) g k y i = (decide (clN xs i = k) && (decide (0 ≤ g i) && (decide (g i ≤ y) && decide (y < g i + t.b k))))) := by
        show (decide (clN xs i = k) && (decide (0 ≤ g i) && (decide (g i ≤ y) && decide (y < g i + ((if k < 4 then (t.b k).toNat else 1 : Nat) : Int))))) = _
        rw [if_pos hk, show (((t.b k).toNat : Nat) : Int) = t.b k by omega]
      have HNx : Hid (∀ v, bsy (sysL t xs es) g k y i = v → cnt (bsy (sysL t xs es) g k y) (i + 1) = cnt (bsy (sysL t xs es) g k y) i + (if v = true then 1 else 0)) := fun v e => by
        show cnt _ i + (if bsy (sysL t xs es) g k y i = true then 1 else 0) = _
        rw [e]
      have hcl4 := clN_lt xs i
      have hcn := HCn.out (bsy (sysL t xs es) g k y) i
      obtain ⟨r1, r2⟩ := HRg.out i hlt
      clear hx ho hol hv1 hv2
      obtain ⟨cl, hcl⟩ : ∃ cl, clN xs i = cl := ⟨_, rfl⟩
      rw [hcl] at HC HBs hcl4
      obtain ⟨gi, hgi⟩ : ∃ gi, g i = gi := ⟨_, rfl⟩
      rw [hgi] at HBs r1 r2
      have HGi : Hid (g i = gi) := hgi
      generalize bsy (sysL t xs es) g k y i = bv at *
      obtain ⟨p, hp⟩ : ∃ p, cnt (bsy (sysL t xs es) g k y) i = p := ⟨_, rfl⟩
      rw [hp] at HNx hcn ⊢
      clear hcl hgi hp
      generalize xs[i] = o at *
      obtain ⟨xn, hxn⟩ : ∃ n, xs.length = n := ⟨_, rfl⟩
      have HXn : Hid (xs.length = xn) := hxn
      rw [hxn] at i1 hn' ⊢
      clear hxn
      go_upto_region 6 with (first
        | (go_at_call 13; refine Calls.mono (HC.out _) ?_; rintro e w2 ⟨rfl, hb2⟩; have HQ2 : Hid (Hu2 w w2 t) := HQ.out.next hb2; clear hb2 HC HQ q0 hz2))
      have HLo : Hid (g i = gi) := HGi.out
      obtain ⟨cb, cf, rfl, hcz, hcx⟩ := (HGl.out.up HQ2.out.up).is (by rw [HXn.out]; omega)
      have hci := hcx i (by rw [HXn.out]; omega)
      rw [HLo.out] at hci
      have tbk := HQ2.out.t.cb k hk
      have tl := HQ2.out.t.lt
      clear hcx HLo
      have hRel : ∀ v, bv = v → ∀ x : Int, x = (p : Int) + (if v = true then 1 else 0) → (Value.int .i64 x) = .int .i64 ((cnt (bsy (sysL t xs es) g k y) (i + 1) : Nat) : Int) := fun v e x hx => by
        rw [HNx.out v e, hx]
        congr 1
        split <;> simp
      have HRel : Hid (∀ v, bv = v → ∀ x : Int, x = (p : Int) + (if v = true then 1 else 0) → (Value.int .i64 x) = .int .i64 ((cnt (bsy (sysL t xs es) g k y) (i + 1) : Nat) : Int)) := hRel
      clear hRel
      go_cut [53] (fun v wx => v = .bool bv ∧ Hu2 w wx t)
      case first =>
        by_cases c1 : cl = k
        · subst c1
          have d1 : decide ((cl : Int) = (cl : Int)) = true := by simp
          by_cases c2 : gi ≤ y
          · by_cases c3 : y - gi < t.b cl
            · have hv : bv = true := by rw [HBs.out]; simp; omega
              subst hv
              go_quiet (fail)
              go_wp2_with fail
              go_meet
              exact ⟨rfl, hu2N HQ2.out⟩
            · have d3 : decide (y - gi < t.b cl) = false := by simp; omega
              have hv : bv = false := by rw [HBs.out]; simp; omega
              subst hv
              go_quiet (fail)
              go_wp2_with fail
              go_meet
              exact ⟨rfl, hu2N HQ2.out⟩
          · have d2 : decide (gi ≤ y) = false := by simp; omega
            have hv : bv = false := by rw [HBs.out]; simp; omega
            subst hv
            go_quiet (fail)
            go_wp2_with fail
            go_meet
            exact ⟨rfl, hu2N HQ2.out⟩
        · have d1 : ((cl : Int) == (k : Int)) = false := by simp; omega
          have d1' : decide ((cl : Int) = (k : Int)) = false := by simp; omega
          have hv : bv = false := by rw [HBs.out]; simp [c1]
          subst hv
          go_quiet (fail)
          go_wp2_with fail
          go_meet
          exact ⟨rfl, hu2N HQ2.out⟩
      case rest =>
        obtain ⟨rfl, hq3⟩ := hcut
        have HQ3 : Hid (Hu2 w wc t) := hq3
        clear hq3 HQ2 hci hcz tbk tl HBs
        cases bv
        · go_wp2_with fail
          go_roundw
          case rel => exact ⟨i + 1, by omega, HRel.out false rfl _ (by simp), by go_num, HQ3.out⟩
          case measure => simp [intOf]; omega
        · go_wp2_with fail
          go_roundw
          case rel => exact ⟨i + 1, by omega, HRel.out true rfl _ (by simp), by go_num, HQ3.out⟩
          case measure => simp [intOf]; omega
    · obtain rfl : i = xs.length := by omega
      have i1 : ¬ ((xs.length : Nat) : Int) < ((xs.length : Nat) : Int) := by omega
      go_wp2_with fail
      go_ret
      exact ⟨rfl, HQ.out.up⟩

set_option maxHeartbeats 8000000 in
theorem busyD_any (ao : Option Addr) (cap : Nat) (xs : List O) (t : Tab) (es : List Ed) (a : Option Addr) (ccap : Nat) (g : Nat → Int) (k : Nat) (y : Int) (w : World) (h : OpsAt w ao xs) (hok : ∀ o ∈ xs, okL o = true) (hn : xs.length ≤ 1024) (ht : t.ok = true) (hg : Nl w a xs.length g) (hr : ∀ i, i < xs.length → -1 ≤ g i ∧ g i ≤ 100000) (hk : k < 4) (hy0 : 0 ≤ y) (hy1 : y ≤ 200000) :
    Calls Tryd.prog 26 #[.slice ao xs.length cap, t.val, .slice a xs.length ccap, .int .i64 (k : Int), .int .i64 y] w fun e w' => e = .returned (.int .i64 (busy (sysL t xs es) g k y : Int)) ∧ Below w.heap.size w w' := by
  have HO : Hid (OpsAt w ao xs) := h
  have HGl : Hid (Nl w a xs.length g) := hg
  have HRg : Hid (∀ i, i < xs.length → -1 ≤ g i ∧ g i ≤ 100000) := hr
  have HOk : Hid (∀ (i : Nat) (hi : i < xs.length), xs[i].Ok ∧ okL xs[i] = true) := fun i hi => ⟨h.ok _ (List.getElem_mem hi), hok _ (List.getElem_mem hi)⟩
  have hbk := Tb.inB_iff ((Tb.ok_parts ht).2 k hk).2.2
  have hn' : (xs.length : Int) ≤ 1024 := by omega
  have HS : Hid (Hu2 w (w.alloc (.cells t.cells 25)) t) := ⟨Tb.tabAt_new w t 25, (Below.refl _ _).alloc (Nat.le_refl _) _⟩
  have HCn : Hid (∀ p i, cnt p i ≤ i) := fun p i => by
    induction i with
    | zero => exact Nat.le_refl _
    | succ i ih => unfold cnt; split <;> omega
  clear h hg hr hok ht
  have hbu : busy (sysL t xs es) g k y = cnt (bsy (sysL t xs es) g k y) xs.length := rfl
  rw [hbu]
  clear hbu
  unfold Tab.val
  go_enter Tryd.func26, Tryd.ntmps26
  go_wp2_with fail
  generalize w.alloc (.cells t.cells 25) = W0 at *
  go_loopw [11, 12] (fun c v wr => ∃ i : Nat, i ≤ xs.length ∧ c = .int .i64 (cnt (bsy (sysL t xs es) g k y) i : Int) ∧ v = .int .i64 i ∧ Hu2 w wr t) (fun _ v _ => xs.length - (intOf v).toNat)
  case atStart => exact ⟨0, by omega, rfl, rfl, HS.out⟩
  case round =>
    rename World => wr
    obtain ⟨i, hi, rfl, rfl, hs⟩ := hrel
    have HQ : Hid (Hu2 w wr t) := hs
    clear hs HS
    by_cases hlt : i < xs.length
    · have i0 : (0 : Int) ≤ (i : Int) := by omega
      have i1 : (i : Int) < (xs.length : Int) := by omega
      obtain ⟨b, f, rfl, hz2, hx⟩ := (HO.out.below HQ.out.up).is (by omega)
      obtain ⟨q0, -, -, -, -⟩ := hx i hlt
      obtain ⟨ho, hol⟩ := HOk.out i hlt
      obtain ⟨hv1, hv2⟩ := clV_D hol
      have HC : Hid (∀ W, Calls Tryd.prog 25 #[.int .i8 xs[i].op] W fun e w' => e = .returned (.tuple #[.int .i64 (clN xs i : Int), .bool true]) ∧ Below W.heap.size W w') := fun W => by
        have h1 := refClass_any xs[i].op W
        rw [hv1, hv2] at h1
        rw [clN_at hlt]
        exact h1
      have HBs : Hid (bsy (sysL t xs es) g k y i = (decide (clN xs i = k) && (decide (0 ≤ g i) && (decide (g i ≤ y) && decide (y < g i + t.b k))))) := by
        show (decide (clN xs i = k) && (decide (0 ≤ g i) && (decide (g i ≤ y) && decide (y < g i + ((if k < 4 then (t.b k).toNat else 1 : Nat) : Int))))) = _
        rw [if_pos hk, show (((t.b k).toNat : Nat) : Int) = t.b k by omega]
      have HNx : Hid (∀ v, bsy (sysL t xs es) g k y i = v → cnt (bsy (sysL t xs es) g k y) (i + 1) = cnt (bsy (sysL t xs es) g k y) i + (if v = true then 1 else 0)) := fun v e => by
        show cnt _ i + (if bsy (sysL t xs es) g k y i = true then 1 else 0) = _
        rw [e]
      have hcl4 := clN_lt xs i
      have hcn := HCn.out (bsy (sysL t xs es) g k y) i
      obtain ⟨r1, r2⟩ := HRg.out i hlt
      clear hx ho hol hv1 hv2
      obtain ⟨cl, hcl⟩ : ∃ cl, clN xs i = cl := ⟨_, rfl⟩
      rw [hcl] at HC HBs hcl4
      obtain ⟨gi, hgi⟩ : ∃ gi, g i = gi := ⟨_, rfl⟩
      rw [hgi] at HBs r1 r2
      have HGi : Hid (g i = gi) := hgi
      generalize bsy (sysL t xs es) g k y i = bv at *
      obtain ⟨p, hp⟩ : ∃ p, cnt (bsy (sysL t xs es) g k y) i = p := ⟨_, rfl⟩
      rw [hp] at HNx hcn ⊢
      clear hcl hgi hp
      generalize xs[i] = o at *
      obtain ⟨xn, hxn⟩ : ∃ n, xs.length = n := ⟨_, rfl⟩
      have HXn : Hid (xs.length = xn) := hxn
      rw [hxn] at i1 hn' ⊢
      clear hxn
      go_upto_region 6 with (first
        | (go_at_call 25; refine Calls.mono (HC.out _) ?_; rintro e w2 ⟨rfl, hb2⟩; have HQ2 : Hid (Hu2 w w2 t) := HQ.out.next hb2; clear hb2 HC HQ q0 hz2))
      have HLo : Hid (g i = gi) := HGi.out
      obtain ⟨cb, cf, rfl, hcz, hcx⟩ := (HGl.out.up HQ2.out.up).is (by rw [HXn.out]; omega)
      have hci := hcx i (by rw [HXn.out]; omega)
      rw [HLo.out] at hci
      have tbk := HQ2.out.t.cb k hk
      have tl := HQ2.out.t.lt
      clear hcx HLo
      have hRel : ∀ v, bv = v → ∀ x : Int, x = (p : Int) + (if v = true then 1 else 0) → (Value.int .i64 x) = .int .i64 ((cnt (bsy (sysL t xs es) g k y) (i + 1) : Nat) : Int) := fun v e x hx => by
        rw [HNx.out v e, hx]
        congr 1
        split <;> simp
      have HRel : Hid (∀ v, bv = v → ∀ x : Int, x = (p : Int) + (if v = true then 1 else 0) → (Value.int .i64 x) = .int .i64 ((cnt (bsy (sysL t xs es) g k y) (i + 1) : Nat) : Int)) := hRel
      clear hRel
      go_cut [60] (fun v wx => v = .bool bv ∧ Hu2 w wx t)
      case first =>
        by_cases c1 : cl = k
        · subst c1
          have d1 : decide ((cl : Int) = (cl : Int)) = true := by simp
          by_cases c0 : 0 ≤ gi
          · by_cases c2 : gi ≤ y
            · by_cases c3 : y < gi + t.b cl
              · have hv : bv = true := by rw [HBs.out]; simp; omega
                subst hv
                go_quiet (fail)
                go_wp2_with fail
                go_meet
                exact ⟨rfl, hu2N HQ2.out⟩
              · have d3 : decide (y < gi + t.b cl) = false := by simp; omega
                have hv : bv = false := by rw [HBs.out]; simp; omega
                subst hv
                go_quiet (fail)
                go_wp2_with fail
                go_meet
                exact ⟨rfl, hu2N HQ2.out⟩
            · have d2 : decide (gi ≤ y) = false := by simp; omega
              have hv : bv = false := by rw [HBs.out]; simp; omega
              subst hv
              go_quiet (fail)
              go_wp2_with fail
              go_meet
              exact ⟨rfl, hu2N HQ2.out⟩
          · have d0 : decide (0 ≤ gi) = false := by simp; omega
            have hv : bv = false := by rw [HBs.out]; simp; omega
            subst hv
            go_quiet (fail)
            go_wp2_with fail
            go_meet
            exact ⟨rfl, hu2N HQ2.out⟩
        · have d1 : ((cl : Int) == (k : Int)) = false := by simp; omega
          have d1' : decide ((cl : Int) = (k : Int)) = false := by simp; omega
          have hv : bv = false := by rw [HBs.out]; simp [c1]
          subst hv
          go_quiet (fail)
          go_wp2_with fail
          go_meet
          exact ⟨rfl, hu2N HQ2.out⟩
      case rest =>
        obtain ⟨rfl, hq3⟩ := hcut
        have HQ3 : Hid (Hu2 w wc t) := hq3
        clear hq3 HQ2 hci hcz tbk tl HBs
        cases bv
        · go_wp2_with fail
          go_roundw
          case rel => exact ⟨i + 1, by omega, HRel.out false rfl _ (by simp), by go_num, HQ3.out⟩
          case measure => simp [intOf]; omega
        · go_wp2_with fail
          go_roundw
          case rel => exact ⟨i + 1, by omega, HRel.out true rfl _ (by simp), by go_num, HQ3.out⟩
          case measure => simp [intOf]; omega
    · obtain rfl : i = xs.length := by omega
      have i1 : ¬ ((xs.length : Nat) : Int) < ((xs.length : Nat) : Int) := by omega
      go_wp2_with fail
      go_ret
      exact ⟨rfl, HQ.out.up⟩
end Go.Proofs.YtnckkhamkkaljaaDoor.Ls

namespace Go.Proofs.YtnckkhamkkaljaaDoor.Ls
open Go.ChangeShapes Go.WideShapes Go.ChangeAt Go.RowKit
open _root_.Go.Proofs.YtnckkhamkkaljaaDoor.Op _root_.Go.Proofs.YtnckkhamkkaljaaDoor.So _root_.Go.Proofs.YtnckkhamkkaljaaDoor.Dp _root_.Go.Proofs.YtnckkhamkkaljaaDoor.ListWay
open _root_.Go.Proofs.YtnckkhamkkaljaaDoor.Rv (frB)
open _root_.Go.Proofs.YtnckkhamkkaljaaDoor.Tb (Tab TabAt Bnds)
set_option maxRecDepth 20000

structure Lo (w W : World) (t : Tab) (hb n : Nat) (c : Nat → Int) (ea : Option Addr) (ec : Nat) (es : List Ed) : Prop where
  t : TabAt W w.heap.size t
  up : Below w.heap.size w W
  ir : Ir W hb n c
  eo : EOwn w.heap.size W ea ec es
theorem Lo.next {w W W' : World} {t : Tab} {hb n : Nat} {c : Nat → Int} {ea : Option Addr} {ec : Nat} {es : List Ed} (h : Lo w W t hb n c ea ec es) (g : Below W.heap.size W W') : Lo w W' t hb n c ea ec es := ⟨h.t.below g h.t.lt, h.up.trans (g.mono h.up.size), h.ir.up g, row_up h.eo g⟩
theorem Lo.drewN {w W : World} {t : Tab} {hb n k : Nat} {c : Nat → Int} {ea : Option Addr} {ec : Nat} {es : List Ed} (h : Lo w W t hb n c ea ec es) : Lo w (W.drewN k) t hb n c ea ec es := h.next ⟨rfl, rfl, rfl, Nat.le_refl _, fun _ _ => rfl⟩
/-- The schedule keeps what Check asks. -/
theorem ckB_cyL {t : Tab} {xs : List O} (hok' : ∀ o ∈ xs, o.Ok) (he : lisE t xs = 0) (hu : hvU t xs = true) : ckB t xs xs.length (cyL t xs) = true := by
  obtain ⟨h1, h2, h3, -⟩ := cyL_is hok' he hu
  have hn := (lis_all he).2.1
  have ht := (lis_all he).1
  have a1 : arC xs.length (cyL t xs) = true := (arC_yes fun k hk => by have := h1 k hk; omega).symm
  have a2 : kpE (ofE t xs) (cyL t xs) = true := (kpE_yes fun k hk => h2 (eg (ofE t xs)[k]) (List.mem_map.2 ⟨_, List.getElem_mem hk, rfl⟩)).symm
  have a3 : kpU t xs (cyL t xs) = true := by
    refine (kpU_yes fun k hk => ?_).symm
    have hb := h1 k hk
    refine (free_sys ht _ k (by omega) (by omega)).2 ?_
    exact units_taken (s := sysL t xs []) (c := cyL t xs) (fun i hi => (h1 i hi).1) (fun i hi z => h3 i hi z) hk
  unfold ckB
  rw [a1, a2, a3, hu]
  simp [he]
theorem nlNone (W : World) (g : Nat → Int) : Nl W none 0 g := ⟨fun h => by omega, fun k hk => by omega⟩
theorem cy_nl {W : World} {t : Tab} {xs : List O} {hb : Nat} (hok' : ∀ o ∈ xs, o.Ok) (he : lisE t xs = 0) (hu : hvU t xs = true) (h : Ir W hb xs.length (cyL t xs)) : Nl W (some ⟨hb, 0, none⟩) xs.length (cyL t xs) := Nl.of h fun k hk => by
  have := (cyL_is hok' he hu).1 k hk
  have := (lis_all he).2.1
  omega
set_option maxHeartbeats 8000000 in
theorem own_bad (ao : Option Addr) (cap : Nat) (xs : List O) (t : Tab) (w : World) (h : OpsAt w ao xs) (hcap : xs.length ≤ cap) (hG : Bnds w) (hn : xs.length ≤ 60) (er : Int) (he : ¬ er = 0) (hcy : ∀ W, Below w.heap.size w W → Calls Tryd.prog 11 #[.slice ao xs.length cap, t.val] W fun e w' => e = .returned (.tuple #[.slice none 0 0, .int .i64 er]) ∧ Below W.heap.size W w') (hck : ckB t xs 0 (fun _ => 0) = false) :
    Calls Tryd.prog 5 #[.slice ao xs.length cap, t.val] w fun e w' => e = .returned (.bool true) ∧ Below w.heap.size w w' := by
  have HCy : Hid (∀ W, Below w.heap.size w W → Calls Tryd.prog 11 #[.slice ao xs.length cap, .agg #[.int .i64 (t.u 0), .int .i64 (t.u 1), .int .i64 (t.u 2), .int .i64 (t.u 3), .int .i64 (t.l 0), .int .i64 (t.l 1), .int .i64 (t.l 2), .int .i64 (t.l 3), .int .i64 (t.b 0), .int .i64 (t.b 1), .int .i64 (t.b 2), .int .i64 (t.b 3), .int .i64 t.d]] W fun e w' => e = .returned (.tuple #[.slice none 0 0, .int .i64 er]) ∧ Below W.heap.size W w') := hcy
  have HCk : Hid (∀ W, Below w.heap.size w W → Calls Tryd.prog 8 #[.slice ao xs.length cap, .agg #[.int .i64 (t.u 0), .int .i64 (t.u 1), .int .i64 (t.u 2), .int .i64 (t.u 3), .int .i64 (t.l 0), .int .i64 (t.l 1), .int .i64 (t.l 2), .int .i64 (t.l 3), .int .i64 (t.b 0), .int .i64 (t.b 1), .int .i64 (t.b 2), .int .i64 (t.b 3), .int .i64 t.d], .slice none 0 0] W fun e w' => e = .returned (.bool false) ∧ Below W.heap.size W w') := fun W hb => by
    rw [← hck]
    exact check_any none ao 0 0 cap xs t (fun _ => 0) W (nlNone W _) (h.below hb) hcap (hG.below hb hG.big) (by omega) (by omega)
  have HW : Hid (∀ W, Below w.heap.size w W → Calls Tryd.prog 7 #[] W fun e w' => e = .returned (.bool true) ∧ Below W.heap.size W w') := fun W hb => wakes_any W (hG.below hb hG.big)
  have hne : (er != 0) = true := by simpa using he
  have hl : ¬ (60 : Int) < (xs.length : Int) := by omega
  clear h hcap hG hcy hck hn
  unfold Tab.val at *
  go_enter Tryd.func5, Tryd.ntmps5
  go_wp2_with (first
    | (go_at_call 11; refine Calls.mono (HCy.out _ (by go_grown)) ?_; rintro e w1 ⟨rfl, b1⟩; have HT : Hid (TabAt w1 w.heap.size t ∧ Below w.heap.size w w1) := tabNx ⟨Tb.tabAt_new w t 25, by go_grown⟩ b1; clear b1 HCy; have k2 := HT.out.1; have qu0 := k2.cu 0 (by decide); have qu1 := k2.cu 1 (by decide); have qu2 := k2.cu 2 (by decide); have qu3 := k2.cu 3 (by decide); have ql0 := k2.cl 0 (by decide); have ql1 := k2.cl 1 (by decide); have ql2 := k2.cl 2 (by decide); have ql3 := k2.cl 3 (by decide); have qb0 := k2.cb 0 (by decide); have qb1 := k2.cb 1 (by decide); have qb2 := k2.cb 2 (by decide); have qb3 := k2.cb 3 (by decide); have qd := k2.cd; have qz := k2.lt; clear k2)
    | (go_at_call 8; refine Calls.mono (HCk.out _ HT.out.2) ?_; rintro e w2 ⟨rfl, b2⟩; have HT2 : Hid (Below w.heap.size w w2) := (tabNx HT.out b2).2; clear b2 HCk HT qu0 qu1 qu2 qu3 ql0 ql1 ql2 ql3 qb0 qb1 qb2 qb3 qd qz)
    | (go_at_call 7; refine Calls.mono (HW.out _ HT2.out) ?_; rintro e w3 ⟨rfl, b3⟩; have HT3 : Hid (Below w.heap.size w w3) := HT2.out.trans (b3.mono HT2.out.size); clear b3 HW HT2))
  go_ret
  exact ⟨rfl, HT3.out⟩
set_option maxHeartbeats 16000000 in
theorem own_ok (ao : Option Addr) (cap : Nat) (xs : List O) (t : Tab) (w : World) (h : OpsAt w ao xs) (hcap : xs.length ≤ cap) (hG : Bnds w) (hn : xs.length ≤ 60) (he : lisE t xs = 0) (hu : hvU t xs = true) :
    Calls Tryd.prog 5 #[.slice ao xs.length cap, t.val] w fun e w' => e = .returned (.bool true) ∧ Below w.heap.size w w' := by
  obtain ⟨c1, c2, c3, -⟩ := cyL_is h.ok he hu
  obtain ⟨ht, -, hok⟩ := lis_all he
  obtain ⟨hEO, hEl, -⟩ := lis_parts h.ok he
  have HCy : Hid (∀ W, Below w.heap.size w W → Calls Tryd.prog 11 #[.slice ao xs.length cap, .agg #[.int .i64 (t.u 0), .int .i64 (t.u 1), .int .i64 (t.u 2), .int .i64 (t.u 3), .int .i64 (t.l 0), .int .i64 (t.l 1), .int .i64 (t.l 2), .int .i64 (t.l 3), .int .i64 (t.b 0), .int .i64 (t.b 1), .int .i64 (t.b 2), .int .i64 (t.b 3), .int .i64 t.d]] W fun e w' => ∃ hb, e = .returned (.tuple #[.slice (some ⟨hb, 0, none⟩) xs.length xs.length, .int .i64 0]) ∧ Ir w' hb xs.length (cyL t xs) ∧ W.heap.size ≤ hb ∧ Below W.heap.size W w') := fun W hb => cycles_ok ao cap xs t W (h.below hb) hcap (hG.below hb hG.big) he hu
  obtain ⟨M, hM⟩ : ∃ M, (ofE t xs).length = M := ⟨_, rfl⟩
  have hMb : (M : Int) ≤ 100000000 := by omega
  have HM : Hid ((ofE t xs).length = M) := hM
  have HOf : Hid (∀ W, Below w.heap.size w W → Calls Tryd.prog 12 #[.slice ao xs.length cap, .agg #[.int .i64 (t.u 0), .int .i64 (t.u 1), .int .i64 (t.u 2), .int .i64 (t.u 3), .int .i64 (t.l 0), .int .i64 (t.l 1), .int .i64 (t.l 2), .int .i64 (t.l 3), .int .i64 (t.b 0), .int .i64 (t.b 1), .int .i64 (t.b 2), .int .i64 (t.b 3), .int .i64 t.d]] W fun e w' => ∃ a c, e = .returned (.tuple #[.slice a M c, .int .i64 0]) ∧ EOwn W.heap.size w' a c (ofE t xs) ∧ Below W.heap.size W w') := fun W hb => by
    have := of_any ao cap xs t W (h.below hb) hcap (hG.below hb hG.big)
    unfold erE at this
    rw [if_pos he, he] at this
    rw [← hM]
    exact this
  have HCk : Hid (∀ W hb, Below w.heap.size w W → Ir W hb xs.length (cyL t xs) → Calls Tryd.prog 8 #[.slice ao xs.length cap, .agg #[.int .i64 (t.u 0), .int .i64 (t.u 1), .int .i64 (t.u 2), .int .i64 (t.u 3), .int .i64 (t.l 0), .int .i64 (t.l 1), .int .i64 (t.l 2), .int .i64 (t.l 3), .int .i64 (t.b 0), .int .i64 (t.b 1), .int .i64 (t.b 2), .int .i64 (t.b 3), .int .i64 t.d], .slice (some ⟨hb, 0, none⟩) xs.length xs.length] W fun e w' => e = .returned (.bool true) ∧ Below W.heap.size W w') := fun W hb hu' hi => by
    rw [← ckB_cyL h.ok he hu]
    exact check_any (some ⟨hb, 0, none⟩) ao xs.length xs.length cap xs t (cyL t xs) W (cy_nl h.ok he hu hi) (h.below hu') hcap (hG.below hu' hG.big) (by omega) (by omega)
  have HW : Hid (∀ W, Below w.heap.size w W → Calls Tryd.prog 7 #[] W fun e w' => e = .returned (.bool true) ∧ Below W.heap.size W w') := fun W hb => wakes_any W (hG.below hb hG.big)
  have HBz0 : Hid (∀ Z hb ea ec (cl : Nat) (y : Int), cl < 4 → 0 ≤ y → y ≤ 200000 → Lo w Z t hb xs.length (cyL t xs) ea ec (ofE t xs) → Calls Tryd.prog 14 #[.slice ao xs.length cap, .agg #[.int .i64 (t.u 0), .int .i64 (t.u 1), .int .i64 (t.u 2), .int .i64 (t.u 3), .int .i64 (t.l 0), .int .i64 (t.l 1), .int .i64 (t.l 2), .int .i64 (t.l 3), .int .i64 (t.b 0), .int .i64 (t.b 1), .int .i64 (t.b 2), .int .i64 (t.b 3), .int .i64 t.d], .slice (some ⟨hb, 0, none⟩) xs.length xs.length, .int .i64 (cl : Int), .int .i64 y] Z fun e w' => e = .returned (.int .i64 (busy (sysL t xs (ofE t xs)) (cyL t xs) cl y : Int)) ∧ Below Z.heap.size Z w') := fun Z hb ea ec cl y q1 q2 q3 hL => busyL_any ao cap xs t (ofE t xs) (some ⟨hb, 0, none⟩) xs.length (cyL t xs) cl y Z (h.below hL.up) hok (by omega) ht (cy_nl h.ok he hu hL.ir) (fun i hi => by have := c1 i hi; omega) q1 q2 q3
  have HCls : Hid (∀ (i : Nat) (hi : i < xs.length) W, Calls Tryd.prog 13 #[.int .i8 xs[i].op] W fun e w' => e = .returned (.tuple #[.int .i64 (clN xs i : Int), .bool true]) ∧ Below W.heap.size W w') := fun i hi W => by
    have hol := hok _ (List.getElem_mem hi)
    have ho := h.ok _ (List.getElem_mem hi)
    obtain ⟨hv1, hv2⟩ := clV_D hol
    have h1 := class_any xs[i].op W ho.op0 ho.op1
    rw [hv1, hv2] at h1
    rw [clN_at hi]
    exact h1
  have HC1 : Hid (∀ i, i < xs.length → 0 ≤ cyL t xs i ∧ cyL t xs i ≤ 480) := fun i hi => by have := c1 i hi; omega
  have HC2 : Hid (∀ (k : Nat) (hk : k < (ofE t xs).length), cyL t xs (ofE t xs)[k].f.toNat + (ofE t xs)[k].l ≤ cyL t xs (ofE t xs)[k].t.toNat) := fun k hk => c2 (eg (ofE t xs)[k]) (List.mem_map.2 ⟨_, List.getElem_mem hk, rfl⟩)
  have HC3 : Hid (∀ i, i < xs.length → ∀ z, (busy (sysL t xs (ofE t xs)) (cyL t xs) (clN xs i) z : Int) ≤ t.u (clN xs i)) := fun i hi z => by
    have h1 := c3 i hi z
    have h2 := Tb.inB_iff ((Tb.ok_parts ht).2 (clN xs i) (clN_lt xs i)).1
    omega
  have HBk : Hid (∀ k, k < 4 → 1 ≤ t.b k ∧ t.b k ≤ 4) := fun k hk => Tb.inB_iff ((Tb.ok_parts ht).2 k hk).2.2
  have HO : Hid (OpsAt w ao xs) := h
  have HEO : Hid (EOk xs.length (ofE t xs)) := hEO
  have hl : ¬ (60 : Int) < (xs.length : Int) := by omega
  have hn' : (xs.length : Int) ≤ 60 := by omega
  have hnn : ((xs.length : Int) != (xs.length : Int)) = false := by simp
  clear h hcap hG hn he hu c1 c2 c3 ht hok hEO hEl hM
  generalize hce : cyL t xs = c at *
  generalize hee : ofE t xs = es at *
  generalize hse : sysL t xs es = s at *
  clear hce hee hse
  obtain ⟨n, hN⟩ : ∃ n, xs.length = n := ⟨_, rfl⟩
  have HN : Hid (xs.length = n) := hN
  rw [hN] at HCy HOf HCk HBz0 hl hn' hnn HC1 HC3 HEO ⊢
  have HN2 : Hid (∀ i, i < n → i < xs.length) := fun i hi => by rw [HN.out]; exact hi
  clear hN
  unfold Tab.val
  go_enter Tryd.func5, Tryd.ntmps5
  go_upto_region 9 with (first
    | (go_at_call 11; refine Calls.mono (HCy.out _ (by go_grown)) ?_; rintro e w1 ⟨hb, rfl, i1, -, b1⟩; have HT : Hid ((TabAt w1 w.heap.size t ∧ Below w.heap.size w w1) ∧ Ir w1 hb n c) := ⟨tabNx ⟨Tb.tabAt_new w t 25, by go_grown⟩ b1, i1⟩; clear b1 i1 HCy; have k2 := HT.out.1.1; have qu0 := k2.cu 0 (by decide); have qu1 := k2.cu 1 (by decide); have qu2 := k2.cu 2 (by decide); have qu3 := k2.cu 3 (by decide); have ql0 := k2.cl 0 (by decide); have ql1 := k2.cl 1 (by decide); have ql2 := k2.cl 2 (by decide); have ql3 := k2.cl 3 (by decide); have qb0 := k2.cb 0 (by decide); have qb1 := k2.cb 1 (by decide); have qb2 := k2.cb 2 (by decide); have qb3 := k2.cb 3 (by decide); have qd := k2.cd; have qz := k2.lt; clear k2)
    | (go_at_call 12; refine Calls.mono (HOf.out _ HT.out.1.2) ?_; rintro e w2 ⟨ea, ec, rfl, o2, b2⟩; have HL2 : Hid (Lo w w2 t hb n c ea ec es) := ⟨(tabNx HT.out.1 b2).1, (tabNx HT.out.1 b2).2, HT.out.2.up b2, rowBase2 o2 HT.out.1.2.size⟩; clear b2 o2 HOf HT qu0 qu1 qu2 qu3 ql0 ql1 ql2 ql3 qb0 qb1 qb2 qb3 qd qz; have k2 := HL2.out.t; have qu0 := k2.cu 0 (by decide); have qu1 := k2.cu 1 (by decide); have qu2 := k2.cu 2 (by decide); have qu3 := k2.cu 3 (by decide); have ql0 := k2.cl 0 (by decide); have ql1 := k2.cl 1 (by decide); have ql2 := k2.cl 2 (by decide); have ql3 := k2.cl 3 (by decide); have qb0 := k2.cb 0 (by decide); have qb1 := k2.cb 1 (by decide); have qb2 := k2.cb 2 (by decide); have qb3 := k2.cb 3 (by decide); have qd := k2.cd; have qz := k2.lt; clear k2)
    | (go_at_call 8; refine Calls.mono (HCk.out _ _ HL2.out.up HL2.out.ir) ?_; rintro e w3 ⟨rfl, b3⟩; have HL3 : Hid (Lo w w3 t hb n c ea ec es) := HL2.out.next b3; clear b3 HCk HL2 qu0 qu1 qu2 qu3 ql0 ql1 ql2 ql3 qb0 qb1 qb2 qb3 qd qz))
  go_wp2_with fail
  go_loopw [9] (fun v wr => ∃ k : Nat, k ≤ M ∧ v = .int .i64 k ∧ Lo w wr t hb n c ea ec es) (fun v _ => M - (intOf v).toNat)
  case atStart => exact ⟨0, by omega, rfl, HL3.out⟩
  case round =>
    rename World => wr
    obtain ⟨k, hk, rfl, hs⟩ := hrel
    have HQ : Hid (Lo w wr t hb n c ea ec es) := hs
    clear hs HL3
    by_cases hlt : k < M
    · have k0 : (0 : Int) ≤ (k : Int) := by omega
      have k1 : (k : Int) < (M : Int) := by omega
      have hke : k < es.length := by rw [HM.out]; exact hlt
      obtain ⟨eb, rfl, l1, lb1, f0, f1, f2, f3, f4⟩ := eOwn_at HQ.out.eo hke
      have hm := List.getElem_mem hke
      have g1 := HEO.out.f0 _ hm
      have g2 := HEO.out.ft _ hm
      have g3 := HEO.out.tn _ hm
      obtain ⟨g4, g5⟩ := HEO.out.l0 _ hm
      have hle := HC2.out k hke
      clear hm
      generalize es[k] = x at *
      obtain ⟨xf, xt, xl, xd, xy⟩ := x
      obtain ⟨fi, rfl⟩ : ∃ fi : Nat, xf = fi := ⟨xf.toNat, by have g1 : 0 ≤ xf := g1; omega⟩
      obtain ⟨ti, rfl⟩ : ∃ ti : Nat, xt = ti := ⟨xt.toNat, by have g1 : 0 ≤ (fi : Int) := g1; have g2 : (fi : Int) < xt := g2; omega⟩
      have g2 : (fi : Int) < (ti : Int) := g2
      have g3 : (ti : Int) < (n : Int) := g3
      have g4 : 0 ≤ xl := g4
      have g5 : xl ≤ 8 := g5
      have g6 : (0 : Int) ≤ (fi : Int) := by omega
      have g7 : (fi : Int) < (n : Int) := by omega
      have g8 : (0 : Int) ≤ (ti : Int) := by omega
      have hle : c fi + xl ≤ c ti := hle
      obtain ⟨h1, h2⟩ := HC1.out fi (by omega)
      obtain ⟨h3, h4⟩ := HC1.out ti (by omega)
      clear g1
      have cf := HQ.out.ir.c fi (by omega)
      have ct := HQ.out.ir.c ti (by omega)
      have cz := HQ.out.ir.lt
      generalize c fi = vf at *
      generalize c ti = vt at *
      have hc : ¬ vt < vf + xl := by omega
      go_upto_region 12 with fail
      go_quiet (fail)
      go_wp2_with fail
      go_roundw
      case rel => exact ⟨k + 1, by omega, by go_num, HQ.out.drewN⟩
      case measure => simp [intOf]; omega
    · obtain rfl : k = M := by omega
      have k1 : ¬ (k : Int) < (k : Int) := by omega
      go_wp2_with fail
      go_loopw [10] (fun v wr => ∃ i : Nat, i ≤ n ∧ v = .int .i64 i ∧ Lo w wr t hb n c ea ec es) (fun v _ => n - (intOf v).toNat)
      case atStart => exact ⟨0, by omega, rfl, HQ.out⟩
      case round =>
        rename World => wz
        obtain ⟨i, hi, rfl, hs⟩ := hrel
        have HZ : Hid (Lo w wz t hb n c ea ec es) := hs
        clear hs HQ
        by_cases hin : i < n
        · have i0 : (0 : Int) ≤ (i : Int) := by omega
          have i1 : (i : Int) < (n : Int) := by omega
          have hix := HN2.out i hin
          obtain ⟨b, f, rfl, hz2, hx⟩ := (HO.out.below HZ.out.up).is (by omega)
          obtain ⟨q0, -, -, -, -⟩ := hx i hix
          have HCi : Hid (∀ W, Calls Tryd.prog 13 #[.int .i8 xs[i].op] W fun e w' => e = .returned (.tuple #[.int .i64 (clN xs i : Int), .bool true]) ∧ Below W.heap.size W w') := fun W => HCls.out i hix W
          have HC3i : Hid (∀ z, (busy s c (clN xs i) z : Int) ≤ t.u (clN xs i)) := HC3.out i hin
          obtain ⟨r1, r2⟩ := HC1.out i hin
          have c4 := clN_lt xs i
          clear hx
          generalize clN xs i = cl at *
          generalize xs[i] = o at *
          obtain ⟨b1, b2⟩ := HBk.out cl c4
          go_upto_region 19 with (first
            | (go_at_call 13; refine Calls.mono (HCi.out _) ?_; rintro e wy ⟨rfl, b3⟩; have HZ2 : Hid (Lo w wy t hb n c ea ec es) := HZ.out.next b3; clear b3 HCi HZ q0 hz2))
          go_wp2_with fail
          go_loopw [13] (fun v wr => ∃ k : Nat, (k : Int) ≤ t.b cl ∧ v = .int .i64 k ∧ Lo w wr t hb n c ea ec es) (fun v _ => (t.b cl - intOf v).toNat)
          case atStart => exact ⟨0, by omega, rfl, HZ2.out⟩
          case round =>
            rename World => wv
            obtain ⟨j, hj, rfl, hs⟩ := hrel
            have HQ2 : Hid (Lo w wv t hb n c ea ec es) := hs
            clear hs HZ2
            have tbc := HQ2.out.t.cb cl c4
            have ttl := HQ2.out.t.lt
            have c0 : (0 : Int) ≤ (cl : Int) := by omega
            have c3 : (cl : Int) < 4 := by omega
            by_cases hjb : (j : Int) < t.b cl
            · have HBz : Hid (∀ Z, Lo w Z t hb n c ea ec es → Calls Tryd.prog 14 #[.slice (some ⟨b, f, none⟩) n cap, .agg #[.int .i64 (t.u 0), .int .i64 (t.u 1), .int .i64 (t.u 2), .int .i64 (t.u 3), .int .i64 (t.l 0), .int .i64 (t.l 1), .int .i64 (t.l 2), .int .i64 (t.l 3), .int .i64 (t.b 0), .int .i64 (t.b 1), .int .i64 (t.b 2), .int .i64 (t.b 3), .int .i64 t.d], .slice (some ⟨hb, 0, none⟩) n n, .int .i64 (cl : Int), .int .i64 (c i + (j : Int))] Z fun e w' => e = .returned (.int .i64 (busy s c cl (c i + (j : Int)) : Int)) ∧ Below Z.heap.size Z w') := fun Z hZ => HBz0.out Z hb ea ec cl _ c4 (by omega) (by omega) hZ
              have hbz := HC3i.out (c i + (j : Int))
              generalize busy s c cl (c i + (j : Int)) = bz at *
              have HCi : Hid (c i = c i) := rfl
              go_upto_region 21 with fail
              obtain ⟨ci, hci⟩ : ∃ v, c i = v := ⟨_, rfl⟩
              rw [hci] at HBz r1 r2
              have HCi : Hid (c i = ci) := hci
              have hbn : ¬ t.u cl < (bz : Int) := by omega
              clear hci
              have hwr : IntKind.i64.wrap (ci + (j : Int)) = ci + (j : Int) := by rw [IntKind.wrap_i64]; omega
              refine wp_region_held_drew (S := fun Z => Lo w Z t hb n c ea ec es) (by kernel_rfl) (HQ2.out.next (drew_up _)) (fun hHeld => ?_)
              refine wpAnyH_take (i := 0) (v := .slice (some ⟨b, f, none⟩) n cap) rfl (by kernel_rfl) (by kernel_rfl) (by kernel_rfl) (fun _ _ _ h => h) (Or.inl ⟨by rfl, fun w' hSw => by (go_simp)⟩) hHeld ?_
              simp only [Act.put, List.setIfInBounds_toArray, List.set_cons_zero, List.set_cons_succ, List.getElem_cons_zero, List.getElem_toArray]
              refine wpAnyH_take (i := 1) (v := .agg #[.int .i64 (t.u 0), .int .i64 (t.u 1), .int .i64 (t.u 2), .int .i64 (t.u 3), .int .i64 (t.l 0), .int .i64 (t.l 1), .int .i64 (t.l 2), .int .i64 (t.l 3), .int .i64 (t.b 0), .int .i64 (t.b 1), .int .i64 (t.b 2), .int .i64 (t.b 3), .int .i64 t.d]) rfl (by kernel_rfl) (by kernel_rfl) (by kernel_rfl) (fun _ _ _ h => h) (Or.inl ⟨by rfl, fun w' hSw => by (have k2 := hSw.t; have qu0 := k2.cu 0 (by decide); have qu1 := k2.cu 1 (by decide); have qu2 := k2.cu 2 (by decide); have qu3 := k2.cu 3 (by decide); have ql0 := k2.cl 0 (by decide); have ql1 := k2.cl 1 (by decide); have ql2 := k2.cl 2 (by decide); have ql3 := k2.cl 3 (by decide); have qb0 := k2.cb 0 (by decide); have qb1 := k2.cb 1 (by decide); have qb2 := k2.cb 2 (by decide); have qb3 := k2.cb 3 (by decide); have qd := k2.cd; have qz := k2.lt; clear k2; go_simp)⟩) hHeld ?_
              simp only [Act.put, List.setIfInBounds_toArray, List.set_cons_zero, List.set_cons_succ, List.getElem_cons_zero, List.getElem_cons_succ, List.getElem_toArray]
              refine wpAnyH_take (i := 2) (v := .slice (some ⟨hb, 0, none⟩) n n) rfl (by kernel_rfl) (by kernel_rfl) (by kernel_rfl) (fun _ _ _ h => h) (Or.inl ⟨by rfl, fun w' hSw => by (go_simp)⟩) hHeld ?_
              simp only [Act.put, List.setIfInBounds_toArray, List.set_cons_zero, List.set_cons_succ, List.getElem_cons_zero, List.getElem_cons_succ, List.getElem_toArray]
              refine wpAnyH_take (i := 3) (v := .int .i64 (cl : Int)) rfl (by kernel_rfl) (by kernel_rfl) (by kernel_rfl) (fun _ _ _ h => h) (Or.inl ⟨by rfl, fun w' hSw => by (go_simp)⟩) hHeld ?_
              simp only [Act.put, List.setIfInBounds_toArray, List.set_cons_zero, List.set_cons_succ, List.getElem_cons_zero, List.getElem_cons_succ, List.getElem_toArray]
              refine wpAnyH_take (i := 4) (v := .slice (some ⟨hb, 0, none⟩) n n) rfl (by kernel_rfl) (by kernel_rfl) (by kernel_rfl) (fun _ _ _ h => h) (Or.inl ⟨by rfl, fun w' hSw => by (go_simp)⟩) hHeld ?_
              simp only [Act.put, List.setIfInBounds_toArray, List.set_cons_zero, List.set_cons_succ, List.getElem_cons_zero, List.getElem_cons_succ, List.getElem_toArray]
              refine wpAnyH_take (i := 5) (v := .int .i64 (i : Int)) rfl (by kernel_rfl) (by kernel_rfl) (by kernel_rfl) (fun _ _ _ h => h) (Or.inl ⟨by rfl, fun w' hSw => by (go_simp)⟩) hHeld ?_
              simp only [Act.put, List.setIfInBounds_toArray, List.set_cons_zero, List.set_cons_succ, List.getElem_cons_zero, List.getElem_cons_succ, List.getElem_toArray]
              refine wpAnyH_take (i := 6) (v := .pointer (some ⟨hb, i, none⟩)) rfl (by kernel_rfl) (by kernel_rfl) (by kernel_rfl) (fun _ _ _ h => h) (Or.inl ⟨by rfl, fun w' hSw => by (go_simp)⟩) hHeld ?_
              simp only [Act.put, List.setIfInBounds_toArray, List.set_cons_zero, List.set_cons_succ, List.getElem_cons_zero, List.getElem_cons_succ, List.getElem_toArray]
              refine wpAnyH_take (i := 7) (v := .int .i64 ci) rfl (by kernel_rfl) (by kernel_rfl) (by kernel_rfl) (fun _ _ _ h => h) (Or.inl ⟨by rfl, fun w' hSw => by (have y0 := hSw.ir.c i hin; rw [HCi.out] at y0; have yl := hSw.ir.lt; go_simp)⟩) hHeld ?_
              simp only [Act.put, List.setIfInBounds_toArray, List.set_cons_zero, List.set_cons_succ, List.getElem_cons_zero, List.getElem_cons_succ, List.getElem_toArray]
              refine wpAnyH_take (i := 8) (v := .int .i64 (j : Int)) rfl (by kernel_rfl) (by kernel_rfl) (by kernel_rfl) (fun _ _ _ h => h) (Or.inl ⟨by rfl, fun w' hSw => by (go_simp)⟩) hHeld ?_
              simp only [Act.put, List.setIfInBounds_toArray, List.set_cons_zero, List.set_cons_succ, List.getElem_cons_zero, List.getElem_cons_succ, List.getElem_toArray]
              refine wpAnyH_take (i := 9) (v := .int .i64 (ci + (j : Int))) rfl (by kernel_rfl) (by kernel_rfl) (by kernel_rfl) (fun _ _ _ h => h) (Or.inl ⟨by rfl, fun w' hSw => by (go_simp)⟩) hHeld ?_
              simp only [Act.put, List.setIfInBounds_toArray, List.set_cons_zero, List.set_cons_succ, List.getElem_cons_zero, List.getElem_cons_succ, List.getElem_toArray]
              refine wpAnyH_take (i := 11) (v := .int .i64 (cl : Int)) rfl (by kernel_rfl) (by kernel_rfl) (by kernel_rfl) (fun _ _ _ h => h) (Or.inl ⟨by rfl, fun w' hSw => by (go_simp)⟩) hHeld ?_
              simp only [Act.put, List.setIfInBounds_toArray, List.set_cons_zero, List.set_cons_succ, List.getElem_cons_zero, List.getElem_cons_succ, List.getElem_toArray]
              refine wpAnyH_take (i := 12) (v := .pointer (some ⟨w.heap.size, 0, none⟩)) rfl (by kernel_rfl) (by kernel_rfl) (by kernel_rfl) (fun _ _ _ h => h) (Or.inl ⟨by rfl, fun w' hSw => by (go_simp)⟩) hHeld ?_
              simp only [Act.put, List.setIfInBounds_toArray, List.set_cons_zero, List.set_cons_succ, List.getElem_cons_zero, List.getElem_cons_succ, List.getElem_toArray]
              refine wpAnyH_take (i := 13) (v := .pointer (some ⟨w.heap.size, cl, none⟩)) rfl (by kernel_rfl) (by kernel_rfl) (by kernel_rfl) (fun _ _ _ h => h) (Or.inl ⟨by rfl, fun w' hSw => by (go_simp)⟩) hHeld ?_
              simp only [Act.put, List.setIfInBounds_toArray, List.set_cons_zero, List.set_cons_succ, List.getElem_cons_zero, List.getElem_cons_succ, List.getElem_toArray]
              refine wpAnyH_take (i := 14) (v := .int .i64 (t.u cl)) rfl (by kernel_rfl) (by kernel_rfl) (by kernel_rfl) (fun _ _ _ h => h) (Or.inl ⟨by rfl, fun w' hSw => by (have y0 := hSw.t.cu cl c4; have yl := hSw.t.lt; go_simp)⟩) hHeld ?_
              simp only [Act.put, List.setIfInBounds_toArray, List.set_cons_zero, List.set_cons_succ, List.getElem_cons_zero, List.getElem_cons_succ, List.getElem_toArray]
              refine wpAnyH_ready (rs := [10]) (by kernel_rfl) (by simp) ?_
              refine AllReadyH.cons rfl (fun K hK => ?_) AllReadyH.nil
              go_simp
              refine Calls.mono (HBz.out _ (HQ2.out.next (drew_up _))) ?_
              rintro e w3 ⟨rfl, b3⟩
              have HQ3 : Hid (Lo w w3 t hb n c ea ec es) := (HQ2.out.next (drew_up _)).next b3
              clear b3 HBz
              refine hK.out _ _ HQ3.out (fun hHeld => ?_)
              clear hK K
              refine wpAnyH_take (i := 15) (v := .bool false) rfl (by kernel_rfl) (by kernel_rfl) (by kernel_rfl) (fun _ _ _ h => h) (Or.inl ⟨by rfl, fun w' hSw => by (go_simp)⟩) hHeld ?_
              simp only [Act.put, List.setIfInBounds_toArray, List.set_cons_zero, List.set_cons_succ, List.getElem_cons_zero, List.getElem_cons_succ, List.getElem_toArray]
              refine wpAnyH_done (by kernel_rfl) ?_ _
              clear hHeld
              go_wp2_with fail
              go_roundw
              case rel => exact ⟨j + 1, by omega, by go_num, HQ3.out⟩
              case measure => simp [intOf]; omega
            · go_wp2_with fail
              go_roundw
              case rel => exact ⟨i + 1, by omega, by go_num, HQ2.out⟩
              case measure => simp [intOf]; omega
        · obtain rfl : i = n := by omega
          have i1 : ¬ (i : Int) < (i : Int) := by omega
          go_wp2_with (first
            | (go_at_call 7; refine Calls.mono (HW.out _ HZ.out.up) ?_; rintro e w9 ⟨rfl, b9⟩; have HB9 : Hid (Below w.heap.size w w9) := HZ.out.up.trans (b9.mono HZ.out.up.size); clear b9 HW))
          go_ret
          exact ⟨rfl, HB9.out⟩
theorem law_own (ao : Option Addr) (cap : Nat) (xs : List O) (t : Tab) (w : World) (h : OpsAt w ao xs) (hcap : xs.length ≤ cap) (hG : Bnds w) :
    Calls Tryd.prog 5 #[.slice ao xs.length cap, t.val] w fun e w' => e = .returned (.bool true) ∧ Below w.heap.size w w' := by
  by_cases h1 : 60 < xs.length
  · have HW : Hid (∀ W, Below w.heap.size w W → Calls Tryd.prog 7 #[] W fun e w' => e = .returned (.bool true) ∧ Below W.heap.size W w') := fun W hb => wakes_any W (hG.below hb hG.big)
    have i1 : (60 : Int) < (xs.length : Int) := by omega
    have hl := h.len
    have hl' : (xs.length : Int) ≤ 8796093022208 := by omega
    clear h hG h1 hl hcap
    unfold Tab.val
    go_enter Tryd.func5, Tryd.ntmps5
    go_wp2_with (first | (go_at_call 7; refine Calls.mono (HW.out _ (by go_grown)) ?_; rintro e w3 ⟨rfl, hb⟩; have HB3 : Hid (Below w.heap.size w w3) := Below.trans (by go_grown) (hb.mono (by simp)); clear hb HW))
    go_ret
    exact ⟨rfl, HB3.out⟩
  · by_cases he : lisE t xs = 0
    · cases hu : hvU t xs
      · refine own_bad ao cap xs t w h hcap hG (by omega) 21 (by decide) (fun W hb => cycles_unit ao cap xs t W (h.below hb) hcap (hG.below hb hG.big) he hu) ?_
        unfold ckB; rw [hu]; simp
      · exact own_ok ao cap xs t w h hcap hG (by omega) he hu
    · refine own_bad ao cap xs t w h hcap hG (by omega) (lisE t xs) he (fun W hb => cycles_no ao cap xs t W (h.below hb) hcap (hG.below hb hG.big) he) ?_
      unfold ckB; rw [decide_eq_false he]; simp
end Go.Proofs.YtnckkhamkkaljaaDoor.Ls
