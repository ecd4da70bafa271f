/- The statement ListChecks, whole: cycles are a schedule just if all dependences and all units are kept, whatever the list, the table and the cycles; the listed variables are tied to the program text. Conditions: none. -/
import Derived.Test.YtnckkhamkkaljaaDoorWg
import Derived.Test.YtnckkhamkkaljaaDoorKx
import Derived.Test.YtnckkhamkkaljaaDoorWk
import Derived.Test.YtnckkhamkkaljaaDoorHu
import Derived.Deep.OwnRows
import Derived.Deep.AppendLies
import Derived.Laws.AppendOwnNone
import Derived.Test.YtnckkhamkkaljaaDoorTk
import Derived.Test.YtnckkhamkkaljaaDoorPm
import Derived.Test.YtnckkhamkkaljaaDoorTie
import Derived.Test.YtnckkhamkkaljaaDoorCards
import Derived.ProofKit
import Derived.HandedShaped
import Derived.Shelf.Vars
import Derived.Lib.LaidU8
import Derived.Lay
import Derived.LaidHandle
import Derived.LaidLaws
import Derived.Stop.Joined
import Derived.RowKitTokens
import Derived.SevenTiedAt
import Derived.Carry
import Derived.ChangeMaps5
import Derived.Deep.Slices
import Derived.Lib.SmallJoins
import Derived.SizedLaws
import Derived.ChangeOld
import Derived.OpenShut
import Derived.ChangeSlices
namespace Go.Proofs.YtnckkhamkkaljaaDoor.Ls
open Go.ChangeShapes Go.WideShapes Go.ChangeAt Go.RowKit
open _root_.Go.Proofs.YtnckkhamkkaljaaDoor.Op _root_.Go.Proofs.YtnckkhamkkaljaaDoor.So _root_.Go.Proofs.YtnckkhamkkaljaaDoor.Dp _root_.Go.Proofs.YtnckkhamkkaljaaDoor.ListWay
open _root_.Go.Proofs.YtnckkhamkkaljaaDoor.Tb (Tab TabAt Bnds)
set_option maxRecDepth 20000

theorem hu2N {w W : World} {t : Tab} {n : Nat} (h : Hu2 w W t) : Hu2 w (W.drewN n) t := ⟨⟨h.t.cu, h.t.cl, h.t.cb, h.t.cd, h.t.lt⟩, ⟨h.up.os, h.up.tape, h.up.output, h.up.size, h.up.block⟩⟩

set_option maxHeartbeats 8000000 in
theorem busyL_any (ao : Option Addr) (cap : Nat) (xs : List O) (t : Tab) (es : List Ed) (a : Option Addr) (ccap : Nat) (g : Nat → Int) (k : Nat) (y : Int) (w : World) (h : OpsAt w ao xs) (hok : ∀ o ∈ xs, okL o = true) (hn : xs.length ≤ 1024) (ht : t.ok = true) (hg : Nl w a xs.length g) (hr : ∀ i, i < xs.length → 0 ≤ g i ∧ g i ≤ 100000) (hk : k < 4) (hy0 : 0 ≤ y) (hy1 : y ≤ 200000) :
    Calls Tryd.prog 14 #[.slice ao xs.length cap, t.val, .slice a xs.length ccap, .int .i64 (k : Int), .int .i64 y] w fun e w' => e = .returned (.int .i64 (busy (sysL t xs es) g k y : Int)) ∧ Below w.heap.size w w' := by
  have HO : Hid (OpsAt w ao xs) := h
  have HGl : Hid (Nl w a xs.length g) := hg
  have HRg : Hid (∀ i, i < xs.length → 0 ≤ g i ∧ g i ≤ 100000) := hr
  have HOk : Hid (∀ (i : Nat) (hi : i < xs.length), xs[i].Ok ∧ okL xs[i] = true) := fun i hi => ⟨h.ok _ (List.getElem_mem hi), hok _ (List.getElem_mem hi)⟩
  have hbk := Tb.inB_iff ((Tb.ok_parts ht).2 k hk).2.2
  have hn' : (xs.length : Int) ≤ 1024 := by omega
  have HS : Hid (Hu2 w (w.alloc (.cells t.cells 25)) t) := ⟨Tb.tabAt_new w t 25, (Below.refl _ _).alloc (Nat.le_refl _) _⟩
  have HCn : Hid (∀ p i, cnt p i ≤ i) := fun p i => by
    induction i with
    | zero => exact Nat.le_refl _
    | succ i ih => unfold cnt; split <;> omega
  clear h hg hr hok ht
  have hbu : busy (sysL t xs es) g k y = cnt (bsy (sysL t xs es) g k y) xs.length := rfl
  rw [hbu]
  clear hbu
  unfold Tab.val
  go_enter Tryd.func14, Tryd.ntmps14
  go_wp2_with fail
  generalize w.alloc (.cells t.cells 25) = W0 at *
  go_loopw [11, 12] (fun c v wr => ∃ i : Nat, i ≤ xs.length ∧ c = .int .i64 (cnt (bsy (sysL t xs es) g k y) i : Int) ∧ v = .int .i64 i ∧ Hu2 w wr t) (fun _ v _ => xs.length - (intOf v).toNat)
  case atStart => exact ⟨0, by omega, rfl, rfl, HS.out⟩
  case round =>
    rename World => wr
    obtain ⟨i, hi, rfl, rfl, hs⟩ := hrel
    have HQ : Hid (Hu2 w wr t) := hs
    clear hs HS
    by_cases hlt : i < xs.length
    · have i0 : (0 : Int) ≤ (i : Int) := by omega
      have i1 : (i : Int) < (xs.length : Int) := by omega
      obtain ⟨b, f, rfl, hz2, hx⟩ := (HO.out.below HQ.out.up).is (by omega)
      obtain ⟨q0, -, -, -, -⟩ := hx i hlt
      obtain ⟨ho, hol⟩ := HOk.out i hlt
      obtain ⟨hv1, hv2⟩ := clV_D hol
      have HC : Hid (∀ W, Calls Tryd.prog 13 #[.int .i8 xs[i].op] W fun e w' => e = .returned (.tuple #[.int .i64 (clN xs i : Int), .bool true]) ∧ Below W.heap.size W w') := fun W => by
        have h1 := class_any xs[i].op W ho.op0 ho.op1
        rw [hv1, hv2] at h1
        rw [clN_at hlt]
        exact h1
      have HBs : Hid (bsy (sysL t xs es) g k y i = (decide (clN xs i = k) && (decide (0 ≤ g i) && (decide (g i ≤ y) && decide (y < g i + t.b k))))) := by
        show (decide (clN xs i = k) && (decide (0 ≤ g i) && (decide (g i ≤ y) && decide (y < g i + ((if k < 4 then (t.b k).toNat else 1 : Nat) : Int))))) = _
        rw [if_pos hk, show (((t.b k).toNat : Nat) : Int) = t.b k by omega]
      have HNx : Hid (∀ v, bsy (sysL t xs es) g k y i = v → cnt (bsy (sysL t xs es) g k y) (i + 1) = cnt (bsy (sysL t xs es) g k y) i + (if v = true then 1 else 0)) := fun v e => by
        show cnt _ i + (if bsy (sysL t xs es) g k y i = true then 1 else 0) = _
        rw [e]
      have hcl4 := clN_lt xs i
      have hcn := HCn.out (bsy (sysL t xs es) g k y) i
      obtain ⟨r1, r2⟩ := HRg.out i hlt
      clear hx ho hol hv1 hv2
      obtain ⟨cl, hcl⟩ : ∃ cl, clN xs i = cl := ⟨_, rfl⟩
      rw [hcl] at HC HBs hcl4
      obtain ⟨gi, hgi⟩ : ∃ gi, g i = gi := ⟨_, rfl⟩
      rw [hgi] at HBs r1 r2
      have HGi : Hid (g i = gi) := hgi
      generalize bsy (sysL t xs es) g k y i = bv at *
      obtain ⟨p, hp⟩ : ∃ p, cnt (bsy (sysL t xs es) g k y) i = p := ⟨_, rfl⟩
      rw [hp] at HNx hcn ⊢
      clear hcl hgi hp
      generalize xs[i] = o at *
      obtain ⟨xn, hxn⟩ : ∃ n, xs.length = n := ⟨_, rfl⟩
      have HXn : Hid (xs.length = xn) := hxn
      rw [hxn] at i1 hn' ⊢
      clear hxn
      go_upto_region 6 with (first
        | (go_at_call 13; refine Calls.mono (HC.out _) ?_; rintro e w2 ⟨rfl, hb2⟩; have HQ2 : Hid (Hu2 w w2 t) := HQ.out.next hb2; clear hb2 HC HQ q0 hz2))
      have HLo : Hid (g i = gi) := HGi.out
      obtain ⟨cb, cf, rfl, hcz, hcx⟩ := (HGl.out.up HQ2.out.up).is (by rw [HXn.out]; omega)
      have hci := hcx i (by rw [HXn.out]; omega)
      rw [HLo.out] at hci
      have tbk := HQ2.out.t.cb k hk
      have tl := HQ2.out.t.lt
      clear hcx HLo
      have hRel : ∀ v, bv = v → ∀ x : Int, x = (p : Int) + (if v = true then 1 else 0) → (Value.int .i64 x) = .int .i64 ((cnt (bsy (sysL t xs es) g k y) (i + 1) : Nat) : Int) := fun v e x hx => by
        rw [HNx.out v e, hx]
        congr 1
        split <;> simp
      have HRel : Hid (∀ v, bv = v → ∀ x : Int, x = (p : Int) + (if v = true then 1 else 0) → (Value.int .i64 x) = .int .i64 ((cnt (bsy (sysL t xs es) g k y) (i + 1) : Nat) : Int)) := hRel
      clear hRel
      go_cut [53] (fun v wx => v = .bool bv ∧ Hu2 w wx t)
      case first =>
        by_cases c1 : cl = k
        · subst c1
          have d1 : decide ((cl : Int) = (cl : Int)) = true := by simp
          by_cases c2 : gi ≤ y
          · by_cases c3 : y - gi < t.b cl
            · have hv : bv = true := by rw [HBs.out]; simp; omega
              subst hv
              go_quiet (fail)
              go_wp2_with fail
              go_meet
              exact ⟨rfl, hu2N HQ2.out⟩
            · have d3 : decide (y - gi < t.b cl) = false := by simp; omega
              have hv : bv = false := by rw [HBs.out]; simp; omega
              subst hv
              go_quiet (fail)
              go_wp2_with fail
              go_meet
              exact ⟨rfl, hu2N HQ2.out⟩
          · have d2 : decide (gi ≤ y) = false := by simp; omega
            have hv : bv = false := by rw [HBs.out]; simp; omega
            subst hv
            go_quiet (fail)
            go_wp2_with fail
            go_meet
            exact ⟨rfl, hu2N HQ2.out⟩
        · have d1 : ((cl : Int) == (k : Int)) = false := by simp; omega
          have d1' : decide ((cl : Int) = (k : Int)) = false := by simp; omega
          have hv : bv = false := by rw [HBs.out]; simp [c1]
          subst hv
          go_quiet (fail)
          go_wp2_with fail
          go_meet
          exact ⟨rfl, hu2N HQ2.out⟩
      case rest =>
        obtain ⟨rfl, hq3⟩ := hcut
        have HQ3 : Hid (Hu2 w wc t) := hq3
        clear hq3 HQ2 hci hcz tbk tl HBs
        cases bv
        · go_wp2_with fail
          go_roundw
          case rel => exact ⟨i + 1, by omega, HRel.out false rfl _ (by simp), by go_num, HQ3.out⟩
          case measure => simp [intOf]; omega
        · go_wp2_with fail
          go_roundw
          case rel => exact ⟨i + 1, by omega, HRel.out true rfl _ (by simp), by go_num, HQ3.out⟩
          case measure => simp [intOf]; omega
    · obtain rfl : i = xs.length := by omega
      have i1 : ¬ ((xs.length : Nat) : Int) < ((xs.length : Nat) : Int) := by omega
      go_wp2_with fail
      go_ret
      exact ⟨rfl, HQ.out.up⟩

set_option maxHeartbeats 8000000 in
theorem busyD_any (ao : Option Addr) (cap : Nat) (xs : List O) (t : Tab) (es : List Ed) (a : Option Addr) (ccap : Nat) (g : Nat → Int) (k : Nat) (y : Int) (w : World) (h : OpsAt w ao xs) (hok : ∀ o ∈ xs, okL o = true) (hn : xs.length ≤ 1024) (ht : t.ok = true) (hg : Nl w a xs.length g) (hr : ∀ i, i < xs.length → -1 ≤ g i ∧ g i ≤ 100000) (hk : k < 4) (hy0 : 0 ≤ y) (hy1 : y ≤ 200000) :
    Calls Tryd.prog 26 #[.slice ao xs.length cap, t.val, .slice a xs.length ccap, .int .i64 (k : Int), .int .i64 y] w fun e w' => e = .returned (.int .i64 (busy (sysL t xs es) g k y : Int)) ∧ Below w.heap.size w w' := by
  have HO : Hid (OpsAt w ao xs) := h
  have HGl : Hid (Nl w a xs.length g) := hg
  have HRg : Hid (∀ i, i < xs.length → -1 ≤ g i ∧ g i ≤ 100000) := hr
  have HOk : Hid (∀ (i : Nat) (hi : i < xs.length), xs[i].Ok ∧ okL xs[i] = true) := fun i hi => ⟨h.ok _ (List.getElem_mem hi), hok _ (List.getElem_mem hi)⟩
  have hbk := Tb.inB_iff ((Tb.ok_parts ht).2 k hk).2.2
  have hn' : (xs.length : Int) ≤ 1024 := by omega
  have HS : Hid (Hu2 w (w.alloc (.cells t.cells 25)) t) := ⟨Tb.tabAt_new w t 25, (Below.refl _ _).alloc (Nat.le_refl _) _⟩
  have HCn : Hid (∀ p i, cnt p i ≤ i) := fun p i => by
    induction i with
    | zero => exact Nat.le_refl _
    | succ i ih => unfold cnt; split <;> omega
  clear h hg hr hok ht
  have hbu : busy (sysL t xs es) g k y = cnt (bsy (sysL t xs es) g k y) xs.length := rfl
  rw [hbu]
  clear hbu
  unfold Tab.val
  go_enter Tryd.func26, Tryd.ntmps26
  go_wp2_with fail
  generalize w.alloc (.cells t.cells 25) = W0 at *
  go_loopw [11, 12] (fun c v wr => ∃ i : Nat, i ≤ xs.length ∧ c = .int .i64 (cnt (bsy (sysL t xs es) g k y) i : Int) ∧ v = .int .i64 i ∧ Hu2 w wr t) (fun _ v _ => xs.length - (intOf v).toNat)
  case atStart => exact ⟨0, by omega, rfl, rfl, HS.out⟩
  case round =>
    rename World => wr
    obtain ⟨i, hi, rfl, rfl, hs⟩ := hrel
    have HQ : Hid (Hu2 w wr t) := hs
    clear hs HS
    by_cases hlt : i < xs.length
    · have i0 : (0 : Int) ≤ (i : Int) := by omega
      have i1 : (i : Int) < (xs.length : Int) := by omega
      obtain ⟨b, f, rfl, hz2, hx⟩ := (HO.out.below HQ.out.up).is (by omega)
      obtain ⟨q0, -, -, -, -⟩ := hx i hlt
      obtain ⟨ho, hol⟩ := HOk.out i hlt
      obtain ⟨hv1, hv2⟩ := clV_D hol
      have HC : Hid (∀ W, Calls Tryd.prog 25 #[.int .i8 xs[i].op] W fun e w' => e = .returned (.tuple #[.int .i64 (clN xs i : Int), .bool true]) ∧ Below W.heap.size W w') := fun W => by
        have h1 := refClass_any xs[i].op W
        rw [hv1, hv2] at h1
        rw [clN_at hlt]
        exact h1
      have HBs : Hid (bsy (sysL t xs es) g k y i = (decide (clN xs i = k) && (decide (0 ≤ g i) && (decide (g i ≤ y) && decide (y < g i + t.b k))))) := by
        show (decide (clN xs i = k) && (decide (0 ≤ g i) && (decide (g i ≤ y) && decide (y < g i + ((if k < 4 then (t.b k).toNat else 1 : Nat) : Int))))) = _
        rw [if_pos hk, show (((t.b k).toNat : Nat) : Int) = t.b k by omega]
      have HNx : Hid (∀ v, bsy (sysL t xs es) g k y i = v → cnt (bsy (sysL t xs es) g k y) (i + 1) = cnt (bsy (sysL t xs es) g k y) i + (if v = true then 1 else 0)) := fun v e => by
        show cnt _ i + (if bsy (sysL t xs es) g k y i = true then 1 else 0) = _
        rw [e]
      have hcl4 := clN_lt xs i
      have hcn := HCn.out (bsy (sysL t xs es) g k y) i
      obtain ⟨r1, r2⟩ := HRg.out i hlt
      clear hx ho hol hv1 hv2
      obtain ⟨cl, hcl⟩ : ∃ cl, clN xs i = cl := ⟨_, rfl⟩
      rw [hcl] at HC HBs hcl4
      obtain ⟨gi, hgi⟩ : ∃ gi, g i = gi := ⟨_, rfl⟩
      rw [hgi] at HBs r1 r2
      have HGi : Hid (g i = gi) := hgi
      generalize bsy (sysL t xs es) g k y i = bv at *
      obtain ⟨p, hp⟩ : ∃ p, cnt (bsy (sysL t xs es) g k y) i = p := ⟨_, rfl⟩
      rw [hp] at HNx hcn ⊢
      clear hcl hgi hp
      generalize xs[i] = o at *
      obtain ⟨xn, hxn⟩ : ∃ n, xs.length = n := ⟨_, rfl⟩
      have HXn : Hid (xs.length = xn) := hxn
      rw [hxn] at i1 hn' ⊢
      clear hxn
      go_upto_region 6 with (first
        | (go_at_call 25; refine Calls.mono (HC.out _) ?_; rintro e w2 ⟨rfl, hb2⟩; have HQ2 : Hid (Hu2 w w2 t) := HQ.out.next hb2; clear hb2 HC HQ q0 hz2))
      have HLo : Hid (g i = gi) := HGi.out
      obtain ⟨cb, cf, rfl, hcz, hcx⟩ := (HGl.out.up HQ2.out.up).is (by rw [HXn.out]; omega)
      have hci := hcx i (by rw [HXn.out]; omega)
      rw [HLo.out] at hci
      have tbk := HQ2.out.t.cb k hk
      have tl := HQ2.out.t.lt
      clear hcx HLo
      have hRel : ∀ v, bv = v → ∀ x : Int, x = (p : Int) + (if v = true then 1 else 0) → (Value.int .i64 x) = .int .i64 ((cnt (bsy (sysL t xs es) g k y) (i + 1) : Nat) : Int) := fun v e x hx => by
        rw [HNx.out v e, hx]
        congr 1
        split <;> simp
      have HRel : Hid (∀ v, bv = v → ∀ x : Int, x = (p : Int) + (if v = true then 1 else 0) → (Value.int .i64 x) = .int .i64 ((cnt (bsy (sysL t xs es) g k y) (i + 1) : Nat) : Int)) := hRel
      clear hRel
      go_cut [60] (fun v wx => v = .bool bv ∧ Hu2 w wx t)
      case first =>
        by_cases c1 : cl = k
        · subst c1
          have d1 : decide ((cl : Int) = (cl : Int)) = true := by simp
          by_cases c0 : 0 ≤ gi
          · by_cases c2 : gi ≤ y
            · by_cases c3 : y < gi + t.b cl
              · have hv : bv = true := by rw [HBs.out]; simp; omega
                subst hv
                go_quiet (fail)
                go_wp2_with fail
                go_meet
                exact ⟨rfl, hu2N HQ2.out⟩
              · have d3 : decide (y < gi + t.b cl) = false := by simp; omega
                have hv : bv = false := by rw [HBs.out]; simp; omega
                subst hv
                go_quiet (fail)
                go_wp2_with fail
                go_meet
                exact ⟨rfl, hu2N HQ2.out⟩
            · have d2 : decide (gi ≤ y) = false := by simp; omega
              have hv : bv = false := by rw [HBs.out]; simp; omega
              subst hv
              go_quiet (fail)
              go_wp2_with fail
              go_meet
              exact ⟨rfl, hu2N HQ2.out⟩
          · have d0 : decide (0 ≤ gi) = false := by simp; omega
            have hv : bv = false := by rw [HBs.out]; simp; omega
            subst hv
            go_quiet (fail)
            go_wp2_with fail
            go_meet
            exact ⟨rfl, hu2N HQ2.out⟩
        · have d1 : ((cl : Int) == (k : Int)) = false := by simp; omega
          have d1' : decide ((cl : Int) = (k : Int)) = false := by simp; omega
          have hv : bv = false := by rw [HBs.out]; simp [c1]
          subst hv
          go_quiet (fail)
          go_wp2_with fail
          go_meet
          exact ⟨rfl, hu2N HQ2.out⟩
      case rest =>
        obtain ⟨rfl, hq3⟩ := hcut
        have HQ3 : Hid (Hu2 w wc t) := hq3
        clear hq3 HQ2 hci hcz tbk tl HBs
        cases bv
        · go_wp2_with fail
          go_roundw
          case rel => exact ⟨i + 1, by omega, HRel.out false rfl _ (by simp), by go_num, HQ3.out⟩
          case measure => simp [intOf]; omega
        · go_wp2_with fail
          go_roundw
          case rel => exact ⟨i + 1, by omega, HRel.out true rfl _ (by simp), by go_num, HQ3.out⟩
          case measure => simp [intOf]; omega
    · obtain rfl : i = xs.length := by omega
      have i1 : ¬ ((xs.length : Nat) : Int) < ((xs.length : Nat) : Int) := by omega
      go_wp2_with fail
      go_ret
      exact ⟨rfl, HQ.out.up⟩
end Go.Proofs.YtnckkhamkkaljaaDoor.Ls

namespace Go.Proofs.YtnckkhamkkaljaaDoor.Ls
open Go.ChangeShapes Go.WideShapes Go.ChangeAt Go.RowKit
open _root_.Go.Proofs.YtnckkhamkkaljaaDoor.Op _root_.Go.Proofs.YtnckkhamkkaljaaDoor.So _root_.Go.Proofs.YtnckkhamkkaljaaDoor.Dp _root_.Go.Proofs.YtnckkhamkkaljaaDoor.ListWay
open _root_.Go.Proofs.YtnckkhamkkaljaaDoor.Rv (frB)
open _root_.Go.Proofs.YtnckkhamkkaljaaDoor.Tb (Tab TabAt Bnds)
set_option maxRecDepth 20000

structure Lz (w W : World) (t : Tab) (ea : Option Addr) (ec : Nat) (es : List Ed) : Prop where
  t : TabAt W w.heap.size t
  up : Below w.heap.size w W
  eo : EOwn w.heap.size W ea ec es
theorem Lz.next {w W W' : World} {t : Tab} {ea : Option Addr} {ec : Nat} {es : List Ed} (h : Lz w W t ea ec es) (g : Below W.heap.size W W') : Lz w W' t ea ec es := ⟨h.t.below g h.t.lt, h.up.trans (g.mono h.up.size), row_up h.eo g⟩
theorem Lz.drewN {w W : World} {t : Tab} {k : Nat} {ea : Option Addr} {ec : Nat} {es : List Ed} (h : Lz w W t ea ec es) : Lz w (W.drewN k) t ea ec es := h.next ⟨rfl, rfl, rfl, Nat.le_refl _, fun _ _ => rfl⟩
set_option maxHeartbeats 4000000 in
theorem uses_any (ao : Option Addr) (cap : Nat) (xs : List O) (t : Tab) (w : World) (h : OpsAt w ao xs) (hok : ∀ o ∈ xs, okL o = true) (hn : xs.length ≤ 1024) :
    Calls Tryd.prog 24 #[.slice ao xs.length cap, t.val] w fun e w' => e = .returned (.bool (!hvU t xs)) ∧ Below w.heap.size w w' := by
  have HO : Hid (OpsAt w ao xs) := h
  have HOk : Hid (∀ (i : Nat) (hi : i < xs.length), okL xs[i] = true) := fun i hi => hok _ (List.getElem_mem hi)
  have hn' : (xs.length : Int) ≤ 1024 := by omega
  clear h hok
  have HS : Hid (Hu2 w (w.alloc (.cells t.cells 25)) t) := ⟨Tb.tabAt_new w t 25, (Below.refl _ _).alloc (Nat.le_refl _) _⟩
  unfold Tab.val
  go_enter Tryd.func24, Tryd.ntmps24
  go_wp2_with fail
  generalize w.alloc (.cells t.cells 25) = W0 at *
  go_loopw [5] (fun v wr => ∃ k : Nat, k ≤ xs.length ∧ v = .int .i64 k ∧ (∀ (j : Nat) (hj : j < xs.length), j < k → ¬ t.u (clD xs[j].op) = 0) ∧ Hu2 w wr t) (fun v _ => xs.length - (intOf v).toNat)
  case atStart => exact ⟨0, by omega, rfl, fun j _ hj => by omega, HS.out⟩
  case round =>
    rename World => wr
    obtain ⟨k, hk, rfl, hok, hs⟩ := hrel
    have HK : Hid (∀ (j : Nat) (hj : j < xs.length), j < k → ¬ t.u (clD xs[j].op) = 0) := hok
    have HQ : Hid (Hu2 w wr t) := hs
    clear hs HS hok
    by_cases hlt : k < xs.length
    · have k0 : (0 : Int) ≤ (k : Int) := by omega
      have k1 : (k : Int) < (xs.length : Int) := by omega
      obtain ⟨b, f, rfl, hz2, hx⟩ := (HO.out.below HQ.out.up).is (by omega)
      obtain ⟨q0, -, -, -, -⟩ := hx k hlt
      obtain ⟨hv1, hv2⟩ := clV_D (HOk.out k hlt)
      have HC : Hid (∀ W, Calls Tryd.prog 25 #[.int .i8 xs[k].op] W fun e w' => e = .returned (.tuple #[.int .i64 (clD xs[k].op : Int), .bool true]) ∧ Below W.heap.size W w') := fun W => by
        have h1 := refClass_any xs[k].op W
        rw [hv1, hv2] at h1
        exact h1
      have HNo : Hid (t.u (clD xs[k].op) = 0 → false = hvU t xs) := fun e => hvU_no hlt e
      have HNx : Hid (¬ t.u (clD xs[k].op) = 0 → ∀ (j : Nat) (hj : j < xs.length), j < k + 1 → ¬ t.u (clD xs[j].op) = 0) := fun e j hj hjk => by
        rcases Nat.lt_or_ge j k with h | h
        · exact HK.out j hj h
        · obtain rfl : j = k := by omega
          exact e
      have c4 := clD_lt xs[k].op
      clear hx hv1 hv2
      generalize clD xs[k].op = c at *
      generalize xs[k] = o at *
      have c0 : (0 : Int) ≤ (c : Int) := by omega
      have c3 : (c : Int) < 4 := by omega
      by_cases hu : t.u c = 0
      · have HR : Hid (false = hvU t xs) := HNo.out hu
        go_wp2_with (first
          | (go_at_call 25; refine Calls.mono (HC.out _) ?_; rintro e w2 ⟨rfl, hb2⟩; have HQ3 : Hid (Hu2 w w2 t) := HQ.out.next hb2; clear hb2 HC HQ q0 hz2; have hc := HQ3.out.t.cu c c4; have hl := HQ3.out.t.lt))
        go_ret
        exact ⟨by rw [← HR.out]; rfl, HQ3.out.up⟩
      · have hub : (t.u c == 0) = false := by simpa using hu
        go_wp2_with (first
          | (go_at_call 25; refine Calls.mono (HC.out _) ?_; rintro e w2 ⟨rfl, hb2⟩; have HQ3 : Hid (Hu2 w w2 t) := HQ.out.next hb2; clear hb2 HC HQ q0 hz2; have hc := HQ3.out.t.cu c c4; have hl := HQ3.out.t.lt))
        go_roundw
        case rel => exact ⟨k + 1, by omega, by go_num, HNx.out hu, HQ3.out⟩
        case measure => simp [intOf]; omega
    · obtain rfl : k = xs.length := by omega
      have k1 : ¬ (xs.length : Int) < (xs.length : Int) := by omega
      have HR : Hid (true = hvU t xs) := hvU_yes fun j hj => HK.out j hj hj
      go_wp2_with fail
      go_ret
      exact ⟨by rw [← HR.out]; rfl, HQ.out.up⟩
/-- The units as the document tells them. -/
def rfU (t : Tab) (xs : List O) (g : Nat → Int) : Bool := (List.range xs.length).all fun i => (List.range (t.b (clN xs i)).toNat).all fun k => decide ((busy (sysL t xs []) g (clN xs i) (g i + (k : Nat)) : Int) ≤ t.u (clN xs i))
theorem rfU_is {t : Tab} {xs : List O} {g : Nat → Int} (ht : t.ok = true) (hr : ∀ k, k < xs.length → 0 ≤ g k ∧ g k ≤ 65536) : rfU t xs g = kpU t xs g := by
  rw [Bool.eq_iff_iff]
  have h1 := taken_iff (s := sysL t xs []) (c := g) fun i hi => (hr i hi).1
  have hu : ∀ i, (((t.u (clN xs i)).toNat : Nat) : Int) = t.u (clN xs i) := fun i => by
    have h2 := Tb.inB_iff ((Tb.ok_parts ht).2 (clN xs i) (clN_lt xs i)).1
    omega
  constructor
  · intro h
    have h2 := h1.2 fun i hi k hk => by
      have h3 := List.all_eq_true.1 (List.all_eq_true.1 h i (List.mem_range.2 hi)) k (List.mem_range.2 (by rw [sysL_b] at hk; exact hk))
      have h3 : (busy (sysL t xs []) g (clN xs i) (g i + (k : Nat)) : Int) ≤ t.u (clN xs i) := by simpa using h3
      have h4 := hu i
      show busy (sysL t xs []) g (clN xs i) (g i + (k : Nat)) ≤ (t.u (clN xs i)).toNat
      omega
    refine List.all_eq_true.2 fun m hm => ?_
    have hm := List.mem_range.1 hm
    exact (free_sys ht _ m (hr m hm).1 (hr m hm).2).2 (h2 m hm)
  · intro h
    have h2 := h1.1 fun m hm => (free_sys ht _ m (hr m hm).1 (hr m hm).2).1 (List.all_eq_true.1 h m (List.mem_range.2 hm))
    refine List.all_eq_true.2 fun i hi => List.all_eq_true.2 fun k hk => ?_
    have h3 := h2 i (List.mem_range.1 hi) k (by rw [sysL_b]; exact List.mem_range.1 hk)
    have h3 : busy (sysL t xs []) g (clN xs i) (g i + (k : Nat)) ≤ (t.u (clN xs i)).toNat := h3
    have h4 := hu i
    simp only [decide_eq_true_eq]
    omega
theorem rfU_no {t : Tab} {xs : List O} {g : Nat → Int} {i j : Nat} (hi : i < xs.length) (hj : (j : Int) < t.b (clN xs i)) (e : t.u (clN xs i) < (busy (sysL t xs []) g (clN xs i) (g i + (j : Int)) : Int)) : false = rfU t xs g := by
  symm
  refine List.all_eq_false.2 ⟨i, List.mem_range.2 hi, ?_⟩
  rw [Bool.not_eq_true]
  refine List.all_eq_false.2 ⟨j, List.mem_range.2 (by omega), ?_⟩
  simp
  omega
theorem rfU_yes {t : Tab} {xs : List O} {g : Nat → Int} (h : ∀ i, i < xs.length → ∀ j : Nat, (j : Int) < t.b (clN xs i) → (busy (sysL t xs []) g (clN xs i) (g i + (j : Int)) : Int) ≤ t.u (clN xs i)) : true = rfU t xs g := by
  symm
  refine List.all_eq_true.2 fun i hi => List.all_eq_true.2 fun j hj => ?_
  have := h i (List.mem_range.1 hi) j (by have := List.mem_range.1 hj; omega)
  simpa using this
end Go.Proofs.YtnckkhamkkaljaaDoor.Ls

namespace Go.Proofs.YtnckkhamkkaljaaDoor.Ls
open Go.ChangeShapes Go.WideShapes Go.ChangeAt Go.RowKit
open _root_.Go.Proofs.YtnckkhamkkaljaaDoor.Op _root_.Go.Proofs.YtnckkhamkkaljaaDoor.So _root_.Go.Proofs.YtnckkhamkkaljaaDoor.Dp _root_.Go.Proofs.YtnckkhamkkaljaaDoor.ListWay
open _root_.Go.Proofs.YtnckkhamkkaljaaDoor.Rv (frB)
open _root_.Go.Proofs.YtnckkhamkkaljaaDoor.Tb (Tab TabAt Bnds)
set_option maxRecDepth 20000

set_option maxHeartbeats 16000000 in
theorem refCheck_ok (a ao : Option Addr) (ccap cap : Nat) (xs : List O) (t : Tab) (g : Nat → Int) (w : World) (hg : Nl w a xs.length g) (h : OpsAt w ao xs) (hn : xs.length ≤ 60) (he : lisE t xs = 0) (hu : hvU t xs = true) :
    Calls Tryd.prog 9 #[.slice ao xs.length cap, t.val, .slice a xs.length ccap] w fun e w' => e = .returned (.bool (arC xs.length g && kpE (ofE t xs) g && rfU t xs g)) ∧ Below w.heap.size w w' := by
  obtain ⟨ht, -, hok⟩ := lis_all he
  obtain ⟨hEO, hEl, -⟩ := lis_parts h.ok he
  obtain ⟨M, hM⟩ : ∃ M, (ofE t xs).length = M := ⟨_, rfl⟩
  have hMb : (M : Int) ≤ 100000000 := by omega
  have HM : Hid ((ofE t xs).length = M) := hM
  have HOf : Hid (∀ W, Below w.heap.size w W → Calls Tryd.prog 23 #[.slice ao xs.length cap, .agg #[.int .i64 (t.u 0), .int .i64 (t.u 1), .int .i64 (t.u 2), .int .i64 (t.u 3), .int .i64 (t.l 0), .int .i64 (t.l 1), .int .i64 (t.l 2), .int .i64 (t.l 3), .int .i64 (t.b 0), .int .i64 (t.b 1), .int .i64 (t.b 2), .int .i64 (t.b 3), .int .i64 t.d]] W fun e w' => ∃ a c, e = .returned (.tuple #[.slice a M c, .int .i64 0]) ∧ EOwn W.heap.size w' a c (ofE t xs) ∧ Below W.heap.size W w') := fun W hb => by
    have := ofRefN (cap := cap) (t := t) h (fun _ => by omega) W hb
    unfold erE at this
    rw [if_pos he, he] at this
    rw [← hM]
    exact this
  have HU : Hid (∀ W, Below w.heap.size w W → Calls Tryd.prog 24 #[.slice ao xs.length cap, .agg #[.int .i64 (t.u 0), .int .i64 (t.u 1), .int .i64 (t.u 2), .int .i64 (t.u 3), .int .i64 (t.l 0), .int .i64 (t.l 1), .int .i64 (t.l 2), .int .i64 (t.l 3), .int .i64 (t.b 0), .int .i64 (t.b 1), .int .i64 (t.b 2), .int .i64 (t.b 3), .int .i64 t.d]] W fun e w' => e = .returned (.bool false) ∧ Below W.heap.size W w') := fun W hb => by
    have := uses_any ao cap xs t W (h.below hb) hok (by omega)
    rw [hu] at this
    exact this
  have HBz0 : Hid (∀ Z (cl : Nat) (y : Int), arC xs.length g = true → cl < 4 → 0 ≤ y → y ≤ 200000 → Below w.heap.size w Z → Calls Tryd.prog 26 #[.slice ao xs.length cap, .agg #[.int .i64 (t.u 0), .int .i64 (t.u 1), .int .i64 (t.u 2), .int .i64 (t.u 3), .int .i64 (t.l 0), .int .i64 (t.l 1), .int .i64 (t.l 2), .int .i64 (t.l 3), .int .i64 (t.b 0), .int .i64 (t.b 1), .int .i64 (t.b 2), .int .i64 (t.b 3), .int .i64 t.d], .slice a xs.length ccap, .int .i64 (cl : Int), .int .i64 y] Z fun e w' => e = .returned (.int .i64 (busy (sysL t xs []) g cl y : Int)) ∧ Below Z.heap.size Z w') := fun Z cl y q0 q1 q2 q3 hZ => busyD_any ao cap xs t [] a ccap g cl y Z (h.below hZ) hok (by omega) ht (hg.up hZ) (fun i hi => by have := arC_all q0 i hi; omega) q1 q2 q3
  have HCls : Hid (∀ (i : Nat) (hi : i < xs.length) W, Calls Tryd.prog 25 #[.int .i8 xs[i].op] W fun e w' => e = .returned (.tuple #[.int .i64 (clN xs i : Int), .bool true]) ∧ Below W.heap.size W w') := fun i hi W => by
    obtain ⟨hv1, hv2⟩ := clV_D (hok _ (List.getElem_mem hi))
    have h1 := refClass_any xs[i].op W
    rw [hv1, hv2] at h1
    rw [clN_at hi]
    exact h1
  have HBk : Hid (∀ k, k < 4 → 1 ≤ t.b k ∧ t.b k ≤ 4) := fun k hk => Tb.inB_iff ((Tb.ok_parts ht).2 k hk).2.2
  have HO : Hid (OpsAt w ao xs) := h
  have HGl : Hid (Nl w a xs.length g) := hg
  have HEO : Hid (EOk xs.length (ofE t xs)) := hEO
  have hn' : (xs.length : Int) ≤ 60 := by omega
  have hnn : ((xs.length : Int) != (xs.length : Int)) = false := by simp
  have HRno : Hid (∀ (i j : Nat), i < xs.length → (j : Int) < t.b (clN xs i) → t.u (clN xs i) < (busy (sysL t xs []) g (clN xs i) (g i + (j : Int)) : Int) → false = rfU t xs g) := fun i j q1 q2 q3 => rfU_no q1 q2 q3
  have HRys : Hid ((∀ i, i < xs.length → ∀ j : Nat, (j : Int) < t.b (clN xs i) → (busy (sysL t xs []) g (clN xs i) (g i + (j : Int)) : Int) ≤ t.u (clN xs i)) → true = rfU t xs g) := fun q => rfU_yes q
  clear h hn he hu ht hok hEO hEl hM hg
  generalize hee : ofE t xs = es at *
  generalize hse : sysL t xs [] = s at *
  generalize hru : rfU t xs g = bu at *
  clear hee hse hru
  obtain ⟨n, hN⟩ : ∃ n, xs.length = n := ⟨_, rfl⟩
  have HN : Hid (xs.length = n) := hN
  rw [hN] at HOf HU HBz0 hn' hnn HEO HGl HRno HRys ⊢
  have HN2 : Hid (∀ i, i < n → i < xs.length) := fun i hi => by rw [HN.out]; exact hi
  clear hN
  unfold Tab.val
  go_enter Tryd.func9, Tryd.ntmps9
  go_upto_region 4 with (first
    | (go_at_call 23; refine Calls.mono (HOf.out _ (by go_grown)) ?_; rintro e w1 ⟨ea, ec, rfl, o1, b1⟩; have HT : Hid (Lz w w1 t ea ec es) := ⟨(Tb.tabAt_new w t 25).below b1 (by simp), Below.trans (by go_grown) (b1.mono (by simp)), rowBase2 o1 (by simp)⟩; clear o1 b1 HOf; have k2 := HT.out.t; have qu0 := k2.cu 0 (by decide); have qu1 := k2.cu 1 (by decide); have qu2 := k2.cu 2 (by decide); have qu3 := k2.cu 3 (by decide); have ql0 := k2.cl 0 (by decide); have ql1 := k2.cl 1 (by decide); have ql2 := k2.cl 2 (by decide); have ql3 := k2.cl 3 (by decide); have qb0 := k2.cb 0 (by decide); have qb1 := k2.cb 1 (by decide); have qb2 := k2.cb 2 (by decide); have qb3 := k2.cb 3 (by decide); have qd := k2.cd; have qz := k2.lt; clear k2)
    | (go_at_call 24; refine Calls.mono (HU.out _ HT.out.up) ?_; rintro e w2 ⟨rfl, b2⟩; have HT2 : Hid (Lz w w2 t ea ec es) := HT.out.next b2; clear b2 HU HT qu0 qu1 qu2 qu3 ql0 ql1 ql2 ql3 qb0 qb1 qb2 qb3 qd qz))
  go_wp2_with fail
  go_loopw [9] (fun v wr => ∃ k : Nat, k ≤ n ∧ v = .int .i64 k ∧ (∀ j, j < k → 0 ≤ g j ∧ g j ≤ 65536) ∧ Lz w wr t ea ec es) (fun v _ => n - (intOf v).toNat)
  case atStart => exact ⟨0, by omega, rfl, fun j hj => by omega, HT2.out⟩
  case round =>
    rename World => wr
    obtain ⟨k, hk, rfl, hal, hs⟩ := hrel
    have HQ : Hid (Lz w wr t ea ec es) := hs
    have HAl : Hid (∀ j, j < k → 0 ≤ g j ∧ g j ≤ 65536) := hal
    clear hs hal HT2
    by_cases hlt : k < n
    · have k0 : (0 : Int) ≤ (k : Int) := by omega
      have k1 : (k : Int) < (n : Int) := by omega
      obtain ⟨cb, cf, rfl, hcz, hcx⟩ := (HGl.out.up HQ.out.up).is (by omega)
      have q0 := hcx k hlt
      have HNx : Hid (0 ≤ g k ∧ g k ≤ 65536 → ∀ j, j < k + 1 → 0 ≤ g j ∧ g j ≤ 65536) := fun e j hj => by
        rcases Nat.lt_or_ge j k with h | h
        · exact HAl.out j h
        · obtain rfl : j = k := by omega
          exact e
      have HNo : Hid (g k < 0 ∨ 65536 < g k → false = arC n g) := fun e => arC_no hlt e
      clear hcx
      obtain ⟨x, hx⟩ : ∃ x, g k = x := ⟨_, rfl⟩
      rw [hx] at q0 HNx HNo
      clear hx
      by_cases h0 : x < 0
      · have HR : Hid (false = arC n g) := HNo.out (.inl h0)
        skip
        go_wp2_with fail
        go_ret
        exact ⟨by rw [← HR.out]; rfl, HQ.out.up⟩
      · by_cases h1 : 65536 < x
        · have HR : Hid (false = arC n g) := HNo.out (.inr h1)
          skip
          go_wp2_with fail
          go_ret
          exact ⟨by rw [← HR.out]; rfl, HQ.out.up⟩
        · have HR : Hid _ := HNx.out (by omega)
          go_wp2_with fail
          go_roundw
          case rel => exact ⟨k + 1, by omega, by go_num, HR.out, HQ.out⟩
          case measure => simp [intOf]; omega
    · obtain rfl : k = n := by omega
      have k1 : ¬ (k : Int) < (k : Int) := by omega
      have har : true = arC k g := arC_yes HAl.out
      have HAr : Hid (arC k g = true) := har.symm
      clear har
      go_wp2_with fail
      go_loopw [10] (fun v wr => ∃ m : Nat, m ≤ M ∧ v = .int .i64 m ∧ (∀ (j : Nat) (hj : j < es.length), j < m → g es[j].f.toNat + es[j].l ≤ g es[j].t.toNat) ∧ Lz w wr t ea ec es) (fun v _ => M - (intOf v).toNat)
      case atStart => exact ⟨0, by omega, rfl, fun j _ hj => by omega, HQ.out⟩
      case round =>
        rename World => wz
        obtain ⟨m, hm0, rfl, hal, hs⟩ := hrel
        have HZ : Hid (Lz w wz t ea ec es) := hs
        have HEl : Hid (∀ (j : Nat) (hj : j < es.length), j < m → g es[j].f.toNat + es[j].l ≤ g es[j].t.toNat) := hal
        clear hs hal HQ
        by_cases hlt2 : m < M
        · have k0 : (0 : Int) ≤ (m : Int) := by omega
          have k2 : (m : Int) < (M : Int) := by omega
          have hke : m < es.length := by rw [HM.out]; exact hlt2
          obtain ⟨eb, rfl, l1, lb1, f0, f1, f2, f3, f4⟩ := eOwn_at HZ.out.eo hke
          have hm := List.getElem_mem hke
          have g1 := HEO.out.f0 _ hm
          have g2 := HEO.out.ft _ hm
          have g3 := HEO.out.tn _ hm
          obtain ⟨g4, g5⟩ := HEO.out.l0 _ hm
          have HNo : Hid (g es[m].t.toNat < g es[m].f.toNat + es[m].l → false = kpE es g) := fun e => kpE_no hke e
          have HNx : Hid (g es[m].f.toNat + es[m].l ≤ g es[m].t.toNat → ∀ (j : Nat) (hj : j < es.length), j < m + 1 → g es[j].f.toNat + es[j].l ≤ g es[j].t.toNat) := fun e j hj hjk => by
            rcases Nat.lt_or_ge j m with h | h
            · exact HEl.out j hj h
            · obtain rfl : j = m := by omega
              exact e
          clear hm
          generalize es[m] = x at *
          obtain ⟨xf, xt, xl, xd, xy⟩ := x
          obtain ⟨fi, rfl⟩ : ∃ fi : Nat, xf = fi := ⟨xf.toNat, by have g1 : 0 ≤ xf := g1; omega⟩
          obtain ⟨ti, rfl⟩ : ∃ ti : Nat, xt = ti := ⟨xt.toNat, by have g1 : 0 ≤ (fi : Int) := g1; have g2 : (fi : Int) < xt := g2; omega⟩
          have g2 : (fi : Int) < (ti : Int) := g2
          have g3 : (ti : Int) < (k : Int) := g3
          have g4 : 0 ≤ xl := g4
          have g5 : xl ≤ 8 := g5
          have g6 : (0 : Int) ≤ (fi : Int) := by omega
          have g7 : (fi : Int) < (k : Int) := by omega
          have g8 : (0 : Int) ≤ (ti : Int) := by omega
          clear g1
          have HNo : Hid (g ti < g fi + xl → false = kpE es g) := HNo.out
          have HNx : Hid (g fi + xl ≤ g ti → ∀ (j : Nat) (hj : j < es.length), j < m + 1 → g es[j].f.toNat + es[j].l ≤ g es[j].t.toNat) := HNx.out
          obtain ⟨h1, h2⟩ := HAl.out fi (by omega)
          obtain ⟨h3, h4⟩ := HAl.out ti (by omega)
          obtain ⟨cb, cf, rfl, hcz, hcx⟩ := (HGl.out.up HZ.out.up).is (by omega)
          have cf1 := hcx fi (by omega)
          have ct1 := hcx ti (by omega)
          clear hcx
          obtain ⟨vf, hvf⟩ : ∃ v, g fi = v := ⟨_, rfl⟩
          obtain ⟨vt, hvt⟩ : ∃ v, g ti = v := ⟨_, rfl⟩
          rw [hvf] at HNo HNx h1 h2 cf1
          rw [hvt] at HNo HNx h3 h4 ct1
          clear hvf hvt
          go_upto_region 12 with fail
          by_cases hc : vt < vf + xl
          · have hr0 : false = kpE es g := HNo.out hc
            have HR : Hid (false = kpE es g) := hr0
            clear hr0
            go_quiet (fail)
            go_wp2_with fail
            go_ret
            exact ⟨by rw [HAr.out, ← HR.out]; rfl, HZ.out.drewN.up⟩
          · have HR : Hid _ := HNx.out (by omega)
            go_quiet (fail)
            go_wp2_with fail
            go_roundw
            case rel => exact ⟨m + 1, by omega, by go_num, HR.out, HZ.out.drewN⟩
            case measure => simp [intOf]; omega
        · obtain rfl : m = M := by omega
          have m1 : ¬ (m : Int) < (m : Int) := by omega
          have hke : true = kpE es g := kpE_yes fun j hj => HEl.out j hj (by rw [← HM.out]; exact hj)
          have HKe : Hid (kpE es g = true) := hke.symm
          clear hke
          obtain ⟨n, hkn⟩ : ∃ n, k = n := ⟨_, rfl⟩
          subst hkn
          go_wp2_with fail
          go_loopw [11] (fun v wr => ∃ i : Nat, i ≤ k ∧ v = .int .i64 i ∧ (∀ i2, i2 < i → ∀ j : Nat, (j : Int) < t.b (clN xs i2) → (busy s g (clN xs i2) (g i2 + (j : Int)) : Int) ≤ t.u (clN xs i2)) ∧ Lz w wr t ea ec es) (fun v _ => k - (intOf v).toNat)
          case atStart => exact ⟨0, by omega, rfl, fun i2 h => by omega, HZ.out⟩
          case round =>
            rename World => wv
            obtain ⟨i, hi, rfl, hal, hs⟩ := hrel
            have HV : Hid (Lz w wv t ea ec es) := hs
            have HUl : Hid (∀ i2, i2 < i → ∀ j : Nat, (j : Int) < t.b (clN xs i2) → (busy s g (clN xs i2) (g i2 + (j : Int)) : Int) ≤ t.u (clN xs i2)) := hal
            clear hs hal HZ
            by_cases hin : i < k
            · have i0 : (0 : Int) ≤ (i : Int) := by omega
              have i1 : (i : Int) < (k : Int) := by omega
              have hix := HN2.out i hin
              obtain ⟨b, f, rfl, hz2, hx⟩ := (HO.out.below HV.out.up).is (by omega)
              obtain ⟨q0, -, -, -, -⟩ := hx i hix
              have HCi : Hid (∀ W, Calls Tryd.prog 25 #[.int .i8 xs[i].op] W fun e w' => e = .returned (.tuple #[.int .i64 (clN xs i : Int), .bool true]) ∧ Below W.heap.size W w') := fun W => HCls.out i hix W
              have HRi : Hid (∀ j : Nat, (j : Int) < t.b (clN xs i) → t.u (clN xs i) < (busy s g (clN xs i) (g i + (j : Int)) : Int) → false = bu) := fun j q1 q2 => HRno.out i j hin q1 q2
              have HNxi : Hid ((∀ j : Nat, (j : Int) < t.b (clN xs i) → (busy s g (clN xs i) (g i + (j : Int)) : Int) ≤ t.u (clN xs i)) → ∀ i2, i2 < i + 1 → ∀ j : Nat, (j : Int) < t.b (clN xs i2) → (busy s g (clN xs i2) (g i2 + (j : Int)) : Int) ≤ t.u (clN xs i2)) := fun e i2 h2 => by
                rcases Nat.lt_or_ge i2 i with h | h
                · exact HUl.out i2 h
                · obtain rfl : i2 = i := by omega
                  exact e
              obtain ⟨r1, r2⟩ := HAl.out i hin
              have c4 := clN_lt xs i
              clear hx
              generalize clN xs i = cl at *
              generalize xs[i] = o at *
              obtain ⟨b1, b2⟩ := HBk.out cl c4
              go_upto_region 19 with (first
                | (go_at_call 25; refine Calls.mono (HCi.out _) ?_; rintro e wy ⟨rfl, b3⟩; have HV2 : Hid (Lz w wy t ea ec es) := HV.out.next b3; clear b3 HCi HV q0 hz2))
              go_wp2_with fail
              go_loopw [14] (fun v wr => ∃ j : Nat, (j : Int) ≤ t.b cl ∧ v = .int .i64 j ∧ (∀ j2 : Nat, j2 < j → (busy s g cl (g i + (j2 : Int)) : Int) ≤ t.u cl) ∧ Lz w wr t ea ec es) (fun v _ => (t.b cl - intOf v).toNat)
              case atStart => exact ⟨0, by omega, rfl, fun j2 h => by omega, HV2.out⟩
              case round =>
                rename World => wu
                obtain ⟨j, hj, rfl, hal, hs⟩ := hrel
                have HQ2 : Hid (Lz w wu t ea ec es) := hs
                have HJl : Hid (∀ j2 : Nat, j2 < j → (busy s g cl (g i + (j2 : Int)) : Int) ≤ t.u cl) := hal
                clear hs hal HV2
                have tbc := HQ2.out.t.cb cl c4
                have ttl := HQ2.out.t.lt
                have c0 : (0 : Int) ≤ (cl : Int) := by omega
                have c3 : (cl : Int) < 4 := by omega
                by_cases hjb : (j : Int) < t.b cl
                · obtain ⟨cb, cf, rfl, hcl, hcx⟩ := (HGl.out.up HQ2.out.up).is (by omega)
                  have hcc := hcx i hin
                  have HBz : Hid (∀ Z, Lz w Z t ea ec es → Calls Tryd.prog 26 #[.slice (some ⟨b, f, none⟩) k cap, .agg #[.int .i64 (t.u 0), .int .i64 (t.u 1), .int .i64 (t.u 2), .int .i64 (t.u 3), .int .i64 (t.l 0), .int .i64 (t.l 1), .int .i64 (t.l 2), .int .i64 (t.l 3), .int .i64 (t.b 0), .int .i64 (t.b 1), .int .i64 (t.b 2), .int .i64 (t.b 3), .int .i64 t.d], .slice (some ⟨cb, cf, none⟩) k ccap, .int .i64 (cl : Int), .int .i64 (g i + (j : Int))] Z fun e w' => e = .returned (.int .i64 (busy s g cl (g i + (j : Int)) : Int)) ∧ Below Z.heap.size Z w') := fun Z hZ => HBz0.out Z cl _ HAr.out c4 (by omega) (by omega) hZ.up
                  have HRj : Hid (t.u cl < (busy s g cl (g i + (j : Int)) : Int) → false = bu) := fun e => HRi.out j hjb e
                  have HNj : Hid (¬ t.u cl < (busy s g cl (g i + (j : Int)) : Int) → ∀ j2 : Nat, j2 < j + 1 → (busy s g cl (g i + (j2 : Int)) : Int) ≤ t.u cl) := fun e j2 h2 => by
                    rcases Nat.lt_or_ge j2 j with h | h
                    · exact HJl.out j2 h
                    · obtain rfl : j2 = j := by omega
                      omega
                  obtain ⟨bz, hbz⟩ : ∃ v, busy s g cl (g i + (j : Int)) = v := ⟨_, rfl⟩
                  rw [hbz] at HBz HRj HNj
                  obtain ⟨gi, hgi⟩ : ∃ v, g i = v := ⟨_, rfl⟩
                  rw [hgi] at HBz hcc r1 r2
                  clear hbz hgi hcx
                  have hwr : IntKind.i64.wrap (gi + (j : Int)) = gi + (j : Int) := by rw [IntKind.wrap_i64]; omega
                  go_upto_region 21 with fail
                  clear tbc ttl
                  by_cases hd : t.u cl < (bz : Int)
                  · have hd1 : decide (t.u cl < (bz : Int)) = true := by simpa using hd
                    have HRb : Hid (false = bu) := HRj.out hd
                    refine wp_region_held_drew (S := fun Z => Lz w Z t ea ec es ∧ Z.cell? ⟨cb, cf + i, none⟩ = some (.int .i64 gi) ∧ cb < Z.heap.size) (by kernel_rfl) ⟨HQ2.out.next (drew_up _), hcc, hcl⟩ (fun hHeld => ?_)
                    refine wpAnyH_take (i := 0) (v := .slice (some ⟨b, f, none⟩) k cap) rfl (by kernel_rfl) (by kernel_rfl) (by kernel_rfl) (fun _ _ _ h => h) (Or.inl ⟨by rfl, fun w' hSw => by (go_simp)⟩) hHeld ?_
                    simp only [Act.put, List.setIfInBounds_toArray, List.set_cons_zero, List.set_cons_succ, List.getElem_cons_zero, List.getElem_toArray]
                    refine wpAnyH_take (i := 1) (v := .agg #[.int .i64 (t.u 0), .int .i64 (t.u 1), .int .i64 (t.u 2), .int .i64 (t.u 3), .int .i64 (t.l 0), .int .i64 (t.l 1), .int .i64 (t.l 2), .int .i64 (t.l 3), .int .i64 (t.b 0), .int .i64 (t.b 1), .int .i64 (t.b 2), .int .i64 (t.b 3), .int .i64 t.d]) rfl (by kernel_rfl) (by kernel_rfl) (by kernel_rfl) (fun _ _ _ h => h) (Or.inl ⟨by rfl, fun w' hSw => by (have k2 := hSw.1.t; have qu0 := k2.cu 0 (by decide); have qu1 := k2.cu 1 (by decide); have qu2 := k2.cu 2 (by decide); have qu3 := k2.cu 3 (by decide); have ql0 := k2.cl 0 (by decide); have ql1 := k2.cl 1 (by decide); have ql2 := k2.cl 2 (by decide); have ql3 := k2.cl 3 (by decide); have qb0 := k2.cb 0 (by decide); have qb1 := k2.cb 1 (by decide); have qb2 := k2.cb 2 (by decide); have qb3 := k2.cb 3 (by decide); have qd := k2.cd; have qz := k2.lt; clear k2; go_simp)⟩) hHeld ?_
                    simp only [Act.put, List.setIfInBounds_toArray, List.set_cons_zero, List.set_cons_succ, List.getElem_cons_zero, List.getElem_cons_succ, List.getElem_toArray]
                    refine wpAnyH_take (i := 2) (v := .slice (some ⟨cb, cf, none⟩) k ccap) rfl (by kernel_rfl) (by kernel_rfl) (by kernel_rfl) (fun _ _ _ h => h) (Or.inl ⟨by rfl, fun w' hSw => by (go_simp)⟩) hHeld ?_
                    simp only [Act.put, List.setIfInBounds_toArray, List.set_cons_zero, List.set_cons_succ, List.getElem_cons_zero, List.getElem_cons_succ, List.getElem_toArray]
                    refine wpAnyH_take (i := 3) (v := .int .i64 (cl : Int)) rfl (by kernel_rfl) (by kernel_rfl) (by kernel_rfl) (fun _ _ _ h => h) (Or.inl ⟨by rfl, fun w' hSw => by (go_simp)⟩) hHeld ?_
                    simp only [Act.put, List.setIfInBounds_toArray, List.set_cons_zero, List.set_cons_succ, List.getElem_cons_zero, List.getElem_cons_succ, List.getElem_toArray]
                    refine wpAnyH_take (i := 4) (v := .slice (some ⟨cb, cf, none⟩) k ccap) rfl (by kernel_rfl) (by kernel_rfl) (by kernel_rfl) (fun _ _ _ h => h) (Or.inl ⟨by rfl, fun w' hSw => by (go_simp)⟩) hHeld ?_
                    simp only [Act.put, List.setIfInBounds_toArray, List.set_cons_zero, List.set_cons_succ, List.getElem_cons_zero, List.getElem_cons_succ, List.getElem_toArray]
                    refine wpAnyH_take (i := 5) (v := .int .i64 (i : Int)) rfl (by kernel_rfl) (by kernel_rfl) (by kernel_rfl) (fun _ _ _ h => h) (Or.inl ⟨by rfl, fun w' hSw => by (go_simp)⟩) hHeld ?_
                    simp only [Act.put, List.setIfInBounds_toArray, List.set_cons_zero, List.set_cons_succ, List.getElem_cons_zero, List.getElem_cons_succ, List.getElem_toArray]
                    refine wpAnyH_take (i := 6) (v := .pointer (some ⟨cb, cf + i, none⟩)) rfl (by kernel_rfl) (by kernel_rfl) (by kernel_rfl) (fun _ _ _ h => h) (Or.inl ⟨by rfl, fun w' hSw => by (go_simp)⟩) hHeld ?_
                    simp only [Act.put, List.setIfInBounds_toArray, List.set_cons_zero, List.set_cons_succ, List.getElem_cons_zero, List.getElem_cons_succ, List.getElem_toArray]
                    refine wpAnyH_take (i := 7) (v := .int .i64 gi) rfl (by kernel_rfl) (by kernel_rfl) (by kernel_rfl) (fun _ _ _ h => h) (Or.inl ⟨by rfl, fun w' hSw => by (have y0 := hSw.2.1; have yl := hSw.2.2; go_simp)⟩) hHeld ?_
                    simp only [Act.put, List.setIfInBounds_toArray, List.set_cons_zero, List.set_cons_succ, List.getElem_cons_zero, List.getElem_cons_succ, List.getElem_toArray]
                    refine wpAnyH_take (i := 8) (v := .int .i64 (j : Int)) rfl (by kernel_rfl) (by kernel_rfl) (by kernel_rfl) (fun _ _ _ h => h) (Or.inl ⟨by rfl, fun w' hSw => by (go_simp)⟩) hHeld ?_
                    simp only [Act.put, List.setIfInBounds_toArray, List.set_cons_zero, List.set_cons_succ, List.getElem_cons_zero, List.getElem_cons_succ, List.getElem_toArray]
                    refine wpAnyH_take (i := 9) (v := .int .i64 (gi + (j : Int))) rfl (by kernel_rfl) (by kernel_rfl) (by kernel_rfl) (fun _ _ _ h => h) (Or.inl ⟨by rfl, fun w' hSw => by (go_simp)⟩) hHeld ?_
                    simp only [Act.put, List.setIfInBounds_toArray, List.set_cons_zero, List.set_cons_succ, List.getElem_cons_zero, List.getElem_cons_succ, List.getElem_toArray]
                    refine wpAnyH_take (i := 11) (v := .int .i64 (cl : Int)) rfl (by kernel_rfl) (by kernel_rfl) (by kernel_rfl) (fun _ _ _ h => h) (Or.inl ⟨by rfl, fun w' hSw => by (go_simp)⟩) hHeld ?_
                    simp only [Act.put, List.setIfInBounds_toArray, List.set_cons_zero, List.set_cons_succ, List.getElem_cons_zero, List.getElem_cons_succ, List.getElem_toArray]
                    refine wpAnyH_take (i := 12) (v := .pointer (some ⟨w.heap.size, 0, none⟩)) rfl (by kernel_rfl) (by kernel_rfl) (by kernel_rfl) (fun _ _ _ h => h) (Or.inl ⟨by rfl, fun w' hSw => by (go_simp)⟩) hHeld ?_
                    simp only [Act.put, List.setIfInBounds_toArray, List.set_cons_zero, List.set_cons_succ, List.getElem_cons_zero, List.getElem_cons_succ, List.getElem_toArray]
                    refine wpAnyH_take (i := 13) (v := .pointer (some ⟨w.heap.size, cl, none⟩)) rfl (by kernel_rfl) (by kernel_rfl) (by kernel_rfl) (fun _ _ _ h => h) (Or.inl ⟨by rfl, fun w' hSw => by (go_simp)⟩) hHeld ?_
                    simp only [Act.put, List.setIfInBounds_toArray, List.set_cons_zero, List.set_cons_succ, List.getElem_cons_zero, List.getElem_cons_succ, List.getElem_toArray]
                    refine wpAnyH_take (i := 14) (v := .int .i64 (t.u cl)) rfl (by kernel_rfl) (by kernel_rfl) (by kernel_rfl) (fun _ _ _ h => h) (Or.inl ⟨by rfl, fun w' hSw => by (have y0 := hSw.1.t.cu cl c4; have yl := hSw.1.t.lt; go_simp)⟩) hHeld ?_
                    simp only [Act.put, List.setIfInBounds_toArray, List.set_cons_zero, List.set_cons_succ, List.getElem_cons_zero, List.getElem_cons_succ, List.getElem_toArray]
                    refine wpAnyH_ready (rs := [10]) (by kernel_rfl) (by simp) ?_
                    refine AllReadyH.cons rfl (fun K hK => ?_) AllReadyH.nil
                    go_simp
                    refine Calls.mono (HBz.out _ (HQ2.out.next (drew_up _))) ?_
                    rintro e w3 ⟨rfl, b3⟩
                    have HQ3 : Hid (Lz w w3 t ea ec es) := (HQ2.out.next (drew_up _)).next b3
                    refine hK.out _ _ ⟨HQ3.out, by rw [(bcell b3).1 _ _ hcl]; exact hcc, Nat.lt_of_lt_of_le hcl b3.size⟩ (fun hHeld => ?_)
                    clear hK K b3 HBz
                    refine wpAnyH_take (i := 15) (v := .bool (decide (t.u cl < (bz : Int)))) rfl (by kernel_rfl) (by kernel_rfl) (by kernel_rfl) (fun _ _ _ h => h) (Or.inl ⟨by rfl, fun w' hSw => by (go_simp)⟩) hHeld ?_
                    simp only [Act.put, List.setIfInBounds_toArray, List.set_cons_zero, List.set_cons_succ, List.getElem_cons_zero, List.getElem_cons_succ, List.getElem_toArray]
                    refine wpAnyH_done (by kernel_rfl) ?_ _
                    clear hHeld
                    rw [hd1]
                    go_wp2_with fail
                    go_ret
                    exact ⟨by rw [HAr.out, HKe.out, ← HRb.out]; rfl, HQ3.out.up⟩
                  · have hd1 : decide (t.u cl < (bz : Int)) = false := by simpa using hd
                    have HR : Hid _ := HNj.out hd
                    refine wp_region_held_drew (S := fun Z => Lz w Z t ea ec es ∧ Z.cell? ⟨cb, cf + i, none⟩ = some (.int .i64 gi) ∧ cb < Z.heap.size) (by kernel_rfl) ⟨HQ2.out.next (drew_up _), hcc, hcl⟩ (fun hHeld => ?_)
                    refine wpAnyH_take (i := 0) (v := .slice (some ⟨b, f, none⟩) k cap) rfl (by kernel_rfl) (by kernel_rfl) (by kernel_rfl) (fun _ _ _ h => h) (Or.inl ⟨by rfl, fun w' hSw => by (go_simp)⟩) hHeld ?_
                    simp only [Act.put, List.setIfInBounds_toArray, List.set_cons_zero, List.set_cons_succ, List.getElem_cons_zero, List.getElem_toArray]
                    refine wpAnyH_take (i := 1) (v := .agg #[.int .i64 (t.u 0), .int .i64 (t.u 1), .int .i64 (t.u 2), .int .i64 (t.u 3), .int .i64 (t.l 0), .int .i64 (t.l 1), .int .i64 (t.l 2), .int .i64 (t.l 3), .int .i64 (t.b 0), .int .i64 (t.b 1), .int .i64 (t.b 2), .int .i64 (t.b 3), .int .i64 t.d]) rfl (by kernel_rfl) (by kernel_rfl) (by kernel_rfl) (fun _ _ _ h => h) (Or.inl ⟨by rfl, fun w' hSw => by (have k2 := hSw.1.t; have qu0 := k2.cu 0 (by decide); have qu1 := k2.cu 1 (by decide); have qu2 := k2.cu 2 (by decide); have qu3 := k2.cu 3 (by decide); have ql0 := k2.cl 0 (by decide); have ql1 := k2.cl 1 (by decide); have ql2 := k2.cl 2 (by decide); have ql3 := k2.cl 3 (by decide); have qb0 := k2.cb 0 (by decide); have qb1 := k2.cb 1 (by decide); have qb2 := k2.cb 2 (by decide); have qb3 := k2.cb 3 (by decide); have qd := k2.cd; have qz := k2.lt; clear k2; go_simp)⟩) hHeld ?_
                    simp only [Act.put, List.setIfInBounds_toArray, List.set_cons_zero, List.set_cons_succ, List.getElem_cons_zero, List.getElem_cons_succ, List.getElem_toArray]
                    refine wpAnyH_take (i := 2) (v := .slice (some ⟨cb, cf, none⟩) k ccap) rfl (by kernel_rfl) (by kernel_rfl) (by kernel_rfl) (fun _ _ _ h => h) (Or.inl ⟨by rfl, fun w' hSw => by (go_simp)⟩) hHeld ?_
                    simp only [Act.put, List.setIfInBounds_toArray, List.set_cons_zero, List.set_cons_succ, List.getElem_cons_zero, List.getElem_cons_succ, List.getElem_toArray]
                    refine wpAnyH_take (i := 3) (v := .int .i64 (cl : Int)) rfl (by kernel_rfl) (by kernel_rfl) (by kernel_rfl) (fun _ _ _ h => h) (Or.inl ⟨by rfl, fun w' hSw => by (go_simp)⟩) hHeld ?_
                    simp only [Act.put, List.setIfInBounds_toArray, List.set_cons_zero, List.set_cons_succ, List.getElem_cons_zero, List.getElem_cons_succ, List.getElem_toArray]
                    refine wpAnyH_take (i := 4) (v := .slice (some ⟨cb, cf, none⟩) k ccap) rfl (by kernel_rfl) (by kernel_rfl) (by kernel_rfl) (fun _ _ _ h => h) (Or.inl ⟨by rfl, fun w' hSw => by (go_simp)⟩) hHeld ?_
                    simp only [Act.put, List.setIfInBounds_toArray, List.set_cons_zero, List.set_cons_succ, List.getElem_cons_zero, List.getElem_cons_succ, List.getElem_toArray]
                    refine wpAnyH_take (i := 5) (v := .int .i64 (i : Int)) rfl (by kernel_rfl) (by kernel_rfl) (by kernel_rfl) (fun _ _ _ h => h) (Or.inl ⟨by rfl, fun w' hSw => by (go_simp)⟩) hHeld ?_
                    simp only [Act.put, List.setIfInBounds_toArray, List.set_cons_zero, List.set_cons_succ, List.getElem_cons_zero, List.getElem_cons_succ, List.getElem_toArray]
                    refine wpAnyH_take (i := 6) (v := .pointer (some ⟨cb, cf + i, none⟩)) rfl (by kernel_rfl) (by kernel_rfl) (by kernel_rfl) (fun _ _ _ h => h) (Or.inl ⟨by rfl, fun w' hSw => by (go_simp)⟩) hHeld ?_
                    simp only [Act.put, List.setIfInBounds_toArray, List.set_cons_zero, List.set_cons_succ, List.getElem_cons_zero, List.getElem_cons_succ, List.getElem_toArray]
                    refine wpAnyH_take (i := 7) (v := .int .i64 gi) rfl (by kernel_rfl) (by kernel_rfl) (by kernel_rfl) (fun _ _ _ h => h) (Or.inl ⟨by rfl, fun w' hSw => by (have y0 := hSw.2.1; have yl := hSw.2.2; go_simp)⟩) hHeld ?_
                    simp only [Act.put, List.setIfInBounds_toArray, List.set_cons_zero, List.set_cons_succ, List.getElem_cons_zero, List.getElem_cons_succ, List.getElem_toArray]
                    refine wpAnyH_take (i := 8) (v := .int .i64 (j : Int)) rfl (by kernel_rfl) (by kernel_rfl) (by kernel_rfl) (fun _ _ _ h => h) (Or.inl ⟨by rfl, fun w' hSw => by (go_simp)⟩) hHeld ?_
                    simp only [Act.put, List.setIfInBounds_toArray, List.set_cons_zero, List.set_cons_succ, List.getElem_cons_zero, List.getElem_cons_succ, List.getElem_toArray]
                    refine wpAnyH_take (i := 9) (v := .int .i64 (gi + (j : Int))) rfl (by kernel_rfl) (by kernel_rfl) (by kernel_rfl) (fun _ _ _ h => h) (Or.inl ⟨by rfl, fun w' hSw => by (go_simp)⟩) hHeld ?_
                    simp only [Act.put, List.setIfInBounds_toArray, List.set_cons_zero, List.set_cons_succ, List.getElem_cons_zero, List.getElem_cons_succ, List.getElem_toArray]
                    refine wpAnyH_take (i := 11) (v := .int .i64 (cl : Int)) rfl (by kernel_rfl) (by kernel_rfl) (by kernel_rfl) (fun _ _ _ h => h) (Or.inl ⟨by rfl, fun w' hSw => by (go_simp)⟩) hHeld ?_
                    simp only [Act.put, List.setIfInBounds_toArray, List.set_cons_zero, List.set_cons_succ, List.getElem_cons_zero, List.getElem_cons_succ, List.getElem_toArray]
                    refine wpAnyH_take (i := 12) (v := .pointer (some ⟨w.heap.size, 0, none⟩)) rfl (by kernel_rfl) (by kernel_rfl) (by kernel_rfl) (fun _ _ _ h => h) (Or.inl ⟨by rfl, fun w' hSw => by (go_simp)⟩) hHeld ?_
                    simp only [Act.put, List.setIfInBounds_toArray, List.set_cons_zero, List.set_cons_succ, List.getElem_cons_zero, List.getElem_cons_succ, List.getElem_toArray]
                    refine wpAnyH_take (i := 13) (v := .pointer (some ⟨w.heap.size, cl, none⟩)) rfl (by kernel_rfl) (by kernel_rfl) (by kernel_rfl) (fun _ _ _ h => h) (Or.inl ⟨by rfl, fun w' hSw => by (go_simp)⟩) hHeld ?_
                    simp only [Act.put, List.setIfInBounds_toArray, List.set_cons_zero, List.set_cons_succ, List.getElem_cons_zero, List.getElem_cons_succ, List.getElem_toArray]
                    refine wpAnyH_take (i := 14) (v := .int .i64 (t.u cl)) rfl (by kernel_rfl) (by kernel_rfl) (by kernel_rfl) (fun _ _ _ h => h) (Or.inl ⟨by rfl, fun w' hSw => by (have y0 := hSw.1.t.cu cl c4; have yl := hSw.1.t.lt; go_simp)⟩) hHeld ?_
                    simp only [Act.put, List.setIfInBounds_toArray, List.set_cons_zero, List.set_cons_succ, List.getElem_cons_zero, List.getElem_cons_succ, List.getElem_toArray]
                    refine wpAnyH_ready (rs := [10]) (by kernel_rfl) (by simp) ?_
                    refine AllReadyH.cons rfl (fun K hK => ?_) AllReadyH.nil
                    go_simp
                    refine Calls.mono (HBz.out _ (HQ2.out.next (drew_up _))) ?_
                    rintro e w3 ⟨rfl, b3⟩
                    have HQ3 : Hid (Lz w w3 t ea ec es) := (HQ2.out.next (drew_up _)).next b3
                    refine hK.out _ _ ⟨HQ3.out, by rw [(bcell b3).1 _ _ hcl]; exact hcc, Nat.lt_of_lt_of_le hcl b3.size⟩ (fun hHeld => ?_)
                    clear hK K b3 HBz
                    refine wpAnyH_take (i := 15) (v := .bool (decide (t.u cl < (bz : Int)))) rfl (by kernel_rfl) (by kernel_rfl) (by kernel_rfl) (fun _ _ _ h => h) (Or.inl ⟨by rfl, fun w' hSw => by (go_simp)⟩) hHeld ?_
                    simp only [Act.put, List.setIfInBounds_toArray, List.set_cons_zero, List.set_cons_succ, List.getElem_cons_zero, List.getElem_cons_succ, List.getElem_toArray]
                    refine wpAnyH_done (by kernel_rfl) ?_ _
                    clear hHeld
                    rw [hd1]
                    go_wp2_with fail
                    go_roundw
                    case rel => exact ⟨j + 1, by omega, by go_num, HR.out, HQ3.out⟩
                    case measure => simp [intOf]; omega
                · have HR : Hid _ := HNxi.out fun j2 h2 => HJl.out j2 (by omega)
                  go_wp2_with fail
                  go_roundw
                  case rel => exact ⟨i + 1, by omega, by go_num, HR.out, HQ2.out⟩
                  case measure => simp [intOf]; omega
            · obtain rfl : i = k := by omega
              have i1 : ¬ (i : Int) < (i : Int) := by omega
              have HRb : Hid (true = bu) := HRys.out HUl.out
              go_wp2_with fail
              go_ret
              exact ⟨by rw [HAr.out, HKe.out, ← HRb.out]; rfl, HV.out.up⟩
end Go.Proofs.YtnckkhamkkaljaaDoor.Ls

namespace Go.Proofs.YtnckkhamkkaljaaDoor.Ls
open Go.ChangeShapes Go.WideShapes Go.ChangeAt Go.RowKit
open _root_.Go.Proofs.YtnckkhamkkaljaaDoor.Op _root_.Go.Proofs.YtnckkhamkkaljaaDoor.So _root_.Go.Proofs.YtnckkhamkkaljaaDoor.Dp _root_.Go.Proofs.YtnckkhamkkaljaaDoor.ListWay
open _root_.Go.Proofs.YtnckkhamkkaljaaDoor.Tb (Tab TabAt Bnds)
set_option maxRecDepth 20000

set_option maxHeartbeats 4000000 in
theorem refCheck_bad (a ao : Option Addr) (n ccap cap : Nat) (xs : List O) (t : Tab) (w : World) (h : OpsAt w ao xs) (hn : xs.length ≤ 60) (hnn : n ≤ 9000000000000000000) (hb : ¬ lisE t xs = 0 ∨ hvU t xs = false ∨ ¬ n = xs.length) :
    Calls Tryd.prog 9 #[.slice ao xs.length cap, t.val, .slice a n ccap] w fun e w' => e = .returned (.bool false) ∧ Below w.heap.size w w' := by
  have HOf : Hid (∀ W, Below w.heap.size w W → Calls Tryd.prog 23 #[.slice ao xs.length cap, .agg #[.int .i64 (t.u 0), .int .i64 (t.u 1), .int .i64 (t.u 2), .int .i64 (t.u 3), .int .i64 (t.l 0), .int .i64 (t.l 1), .int .i64 (t.l 2), .int .i64 (t.l 3), .int .i64 (t.b 0), .int .i64 (t.b 1), .int .i64 (t.b 2), .int .i64 (t.b 3), .int .i64 t.d]] W (EdOut W (lisE t xs) (erE t xs (ofE t xs)))) := fun W hb => ofRefN (cap := cap) (t := t) h (fun _ => by omega) W hb
  have hli : (xs.length : Int) ≤ 60 := by omega
  have hni : (n : Int) ≤ 9000000000000000000 := by omega
  unfold EdOut at HOf
  by_cases he : lisE t xs = 0
  · have HU : Hid (∀ W, Below w.heap.size w W → Calls Tryd.prog 24 #[.slice ao xs.length cap, .agg #[.int .i64 (t.u 0), .int .i64 (t.u 1), .int .i64 (t.u 2), .int .i64 (t.u 3), .int .i64 (t.l 0), .int .i64 (t.l 1), .int .i64 (t.l 2), .int .i64 (t.l 3), .int .i64 (t.b 0), .int .i64 (t.b 1), .int .i64 (t.b 2), .int .i64 (t.b 3), .int .i64 t.d]] W fun e w' => e = .returned (.bool (!hvU t xs)) ∧ Below W.heap.size W w') := fun W hb => uses_any ao cap xs t W (h.below hb) (lis_all he).2.2 (by omega)
    rw [he] at HOf
    have hb : hvU t xs = false ∨ ¬ n = xs.length := by
      rcases hb with hb | hb
      · exact absurd he hb
      · exact hb
    clear h he
    generalize erE t xs (ofE t xs) = es at *
    generalize hvU t xs = bu at *
    unfold Tab.val
    cases bu
    · go_enter Tryd.func9, Tryd.ntmps9
      go_wp2_with (first
        | (go_at_call 23; refine Calls.mono (HOf.out _ (by go_grown)) ?_; rintro e w1 ⟨ea, ec, rfl, o1, b1⟩; have HT : Hid (TabAt w1 w.heap.size t ∧ Below w.heap.size w w1) := tabNx ⟨Tb.tabAt_new w t 25, by go_grown⟩ b1; clear o1 b1 HOf; have k2 := HT.out.1; have qu0 := k2.cu 0 (by decide); have qu1 := k2.cu 1 (by decide); have qu2 := k2.cu 2 (by decide); have qu3 := k2.cu 3 (by decide); have ql0 := k2.cl 0 (by decide); have ql1 := k2.cl 1 (by decide); have ql2 := k2.cl 2 (by decide); have ql3 := k2.cl 3 (by decide); have qb0 := k2.cb 0 (by decide); have qb1 := k2.cb 1 (by decide); have qb2 := k2.cb 2 (by decide); have qb3 := k2.cb 3 (by decide); have qd := k2.cd; have qz := k2.lt; clear k2)
        | (go_at_call 24; refine Calls.mono (HU.out _ HT.out.2) ?_; rintro e w2 ⟨rfl, b2⟩; have HT2 : Hid (Below w.heap.size w w2) := (tabNx HT.out b2).2; clear b2 HU HT qu0 qu1 qu2 qu3 ql0 ql1 ql2 ql3 qb0 qb1 qb2 qb3 qd qz))
      go_ret
      exact ⟨rfl, HT2.out⟩
    · have hb : ¬ n = xs.length := by
        rcases hb with hb | hb
        · cases hb
        · exact hb
      have hni2 : ¬ (n : Int) = (xs.length : Int) := by omega
      have hnb : ((n : Int) != (xs.length : Int)) = true := by simpa using hni2
      go_enter Tryd.func9, Tryd.ntmps9
      go_wp2_with (first
        | (go_at_call 23; refine Calls.mono (HOf.out _ (by go_grown)) ?_; rintro e w1 ⟨ea, ec, rfl, o1, b1⟩; have HT : Hid (TabAt w1 w.heap.size t ∧ Below w.heap.size w w1) := tabNx ⟨Tb.tabAt_new w t 25, by go_grown⟩ b1; clear o1 b1 HOf; have k2 := HT.out.1; have qu0 := k2.cu 0 (by decide); have qu1 := k2.cu 1 (by decide); have qu2 := k2.cu 2 (by decide); have qu3 := k2.cu 3 (by decide); have ql0 := k2.cl 0 (by decide); have ql1 := k2.cl 1 (by decide); have ql2 := k2.cl 2 (by decide); have ql3 := k2.cl 3 (by decide); have qb0 := k2.cb 0 (by decide); have qb1 := k2.cb 1 (by decide); have qb2 := k2.cb 2 (by decide); have qb3 := k2.cb 3 (by decide); have qd := k2.cd; have qz := k2.lt; clear k2)
        | (go_at_call 24; refine Calls.mono (HU.out _ HT.out.2) ?_; rintro e w2 ⟨rfl, b2⟩; have HT2 : Hid (Below w.heap.size w w2) := (tabNx HT.out b2).2; clear b2 HU HT qu0 qu1 qu2 qu3 ql0 ql1 ql2 ql3 qb0 qb1 qb2 qb3 qd qz))
      go_ret
      exact ⟨rfl, HT2.out⟩
  · have hne : (lisE t xs != 0) = true := by simpa using he
    clear h hb
    generalize lisE t xs = er at *
    generalize erE t xs (ofE t xs) = es at *
    unfold Tab.val
    go_enter Tryd.func9, Tryd.ntmps9
    go_wp2_with (first
      | (go_at_call 23; refine Calls.mono (HOf.out _ (by go_grown)) ?_; rintro e w1 ⟨ea, ec, rfl, o1, b1⟩; have HT : Hid (TabAt w1 w.heap.size t ∧ Below w.heap.size w w1) := tabNx ⟨Tb.tabAt_new w t 25, by go_grown⟩ b1; clear o1 b1 HOf))
    go_ret
    exact ⟨rfl, HT.out.2⟩
theorem refCheck_any (a ao : Option Addr) (n ccap cap : Nat) (xs : List O) (t : Tab) (g : Nat → Int) (w : World) (hg : Nl w a n g) (h : OpsAt w ao xs) (hn : xs.length ≤ 60) (hnn : n ≤ 9000000000000000000) :
    Calls Tryd.prog 9 #[.slice ao xs.length cap, t.val, .slice a n ccap] w fun e w' => e = .returned (.bool (ckB t xs n g)) ∧ Below w.heap.size w w' := by
  by_cases he : lisE t xs = 0
  · cases hu : hvU t xs
    · have e : ckB t xs n g = false := by unfold ckB; rw [hu]; simp
      rw [e]; exact refCheck_bad a ao n ccap cap xs t w h hn hnn (.inr (.inl hu))
    · by_cases hx : n = xs.length
      · subst hx
        have e : ckB t xs xs.length g = (arC xs.length g && kpE (ofE t xs) g && rfU t xs g) := by
          unfold ckB
          rw [hu]
          simp only [he, decide_true, Bool.true_and]
          cases ha : arC xs.length g
          · simp
          · rw [rfU_is (lis_all he).1 (arC_all ha)]
        rw [e]
        exact refCheck_ok a ao ccap cap xs t g w hg h hn he hu
      · have e : ckB t xs n g = false := by unfold ckB; rw [decide_eq_false hx]; simp
        rw [e]; exact refCheck_bad a ao n ccap cap xs t w h hn hnn (.inr (.inr hx))
  · have e : ckB t xs n g = false := by unfold ckB; rw [decide_eq_false he]; simp
    rw [e]; exact refCheck_bad a ao n ccap cap xs t w h hn hnn (.inl he)
set_option maxHeartbeats 2000000 in
theorem same_big (a1 a2 : Option Addr) (n c1 c2 : Nat) (w : World) (hn : (n : Int) ≤ 9000000000000000000) (h : ∀ k, k < n → ∃ b1 b2 f2 v, a1 = some ⟨b1, 0, none⟩ ∧ a2 = some ⟨b2, f2, none⟩ ∧ b1 < w.heap.size ∧ b2 < w.heap.size ∧ w.cell? ⟨b1, k, none⟩ = some (.int .i64 v) ∧ w.cell? ⟨b2, f2 + k, none⟩ = some (.int .i64 v)) :
    Calls Tryd.prog 10 #[.slice a1 n c1, .slice a2 n c2] w fun e w' => e = .returned (.bool true) ∧ Below w.heap.size w w' := by
  have HE : Hid (∀ k, k < n → ∃ b1 b2 f2 v, a1 = some ⟨b1, 0, none⟩ ∧ a2 = some ⟨b2, f2, none⟩ ∧ b1 < w.heap.size ∧ b2 < w.heap.size ∧ w.cell? ⟨b1, k, none⟩ = some (.int .i64 v) ∧ w.cell? ⟨b2, f2 + k, none⟩ = some (.int .i64 v)) := h
  clear h
  go_enter Tryd.func10, Tryd.ntmps10
  go_wp2_with fail
  go_loopw [5] (fun i wr => ∃ (k q : Nat), k ≤ n ∧ i = .int .i64 k ∧ wr = w.drewN q) (fun i _ => n - (intOf i).toNat)
  case atStart => exact ⟨0, 0, by omega, rfl, rfl⟩
  case round =>
    rename World => wy
    obtain ⟨k, q, hk, rfl, rfl⟩ := hrel
    by_cases hlt : k < n
    · have j0 : (0 : Int) ≤ (k : Int) := by omega
      have j1 : (k : Int) < (n : Int) := by omega
      obtain ⟨b1, b2, f2, v, rfl, rfl, l1, l2, f0, g0⟩ := HE.out k hlt
      clear HE
      have f0 : (w.drewN q).cell? _ = _ := f0
      have g0 : (w.drewN q).cell? _ = _ := g0
      have l1 : b1 < (w.drewN q).heap.size := l1
      have l2 : b2 < (w.drewN q).heap.size := l2
      generalize hWq : w.drewN q = W at *
      go_wp2_with fail
      go_quiet (fail)
      go_wp2_with fail
      go_roundw
      case rel => exact ⟨k + 1, q + nq, by omega, by go_num, by rw [← hWq]; simp⟩
      case measure => simp [intOf]; omega
    · have j1 : ¬ (k : Int) < (n : Int) := by omega
      go_wp2_with fail
      go_ret
      have B0 := Below.refl w.heap.size w
      exact ⟨rfl, B0.os, B0.tape, B0.output, B0.size, B0.block⟩
def Ls3 (w W : World) (t : Tab) (a2 : Option Addr) (n : Nat) (g : Nat → Int) : Prop := TabAt W w.heap.size t ∧ Below w.heap.size w W ∧ ∀ k, k < n → ∃ b, a2 = some ⟨b, 0, none⟩ ∧ b < W.heap.size ∧ W.cell? ⟨b, k, none⟩ = some (.int .i64 (g k))
theorem Ls3.next {w W W' : World} {t : Tab} {a2 : Option Addr} {n : Nat} {g : Nat → Int} (h : Ls3 w W t a2 n g) (b : Below W.heap.size W W') : Ls3 w W' t a2 n g := ⟨h.1.below b h.1.lt, h.2.1.trans (b.mono h.2.1.size), fun k hk => by
  obtain ⟨q, e, h1, h2⟩ := h.2.2 k hk
  exact ⟨q, e, Nat.lt_of_lt_of_le h1 b.size, by rw [(bcell b).1 _ _ h1]; exact h2⟩⟩
def ncells (n : Nat) (g : Nat → Int) : List Value := (List.range n).map fun k => .int .i64 (g k)
theorem ncells_one (n : Nat) (g : Nat → Int) : ∀ u ∈ ncells n g, u.oneCell' = true := fun u hu => by
  obtain ⟨k, -, rfl⟩ := List.mem_map.1 hu
  rfl
theorem info3b : (Tryd.prog.info? 3).map (fun i => (i.zero, i.size, i.bytes)) = some (some (.int .i64 0), 1, 8) := by kernel_rfl
theorem row_split {w2 : World} {base n : Nat} {v2 : Value} {ns : List Value} (h : w2.ownsRow base 3 1 v2 n ns) : ∃ a2 c2, v2 = .slice a2 n c2 ∧ w2.ownsRow base 3 1 (.slice a2 n c2) n ns := by
  rcases h.2 with ⟨e, e0⟩ | ⟨q, cp, cur, e, -⟩
  · exact ⟨none, 0, by rw [e, e0], by rw [e] at h; rw [e0] at h ⊢; exact h⟩
  · exact ⟨_, _, e, by rw [e] at h; exact h⟩
theorem ls3_of {w w2 : World} {t : Tab} {a2 : Option Addr} {n c2 : Nat} {g : Nat → Int} (hgrow : ((w.alloc (.cells t.cells 25)).alloc (.cells #[] 3)).grownBy w2 (some (w.heap.size + 1))) (hrow : w2.ownsRow (w.heap.size + 1) 3 1 (.slice a2 n c2) n (ncells n g)) : Ls3 w w2 t a2 n g := by
  have hF := grown_fr hgrow
  have tn := (Tb.tabAt_new w t 25).below (B := w.heap.size + 1) (w' := (w.alloc (.cells t.cells 25)).alloc (.cells #[] 3)) ((Below.refl _ _).alloc (by simp) _) (by omega)
  have hlt : w.heap.size < ((w.alloc (.cells t.cells 25)).alloc (.cells #[] 3)).heap.size := by simp; omega
  have hb : Below (w.heap.size + 1) ((w.alloc (.cells t.cells 25)).alloc (.cells #[] 3)) w2 := hF.below (by simp) fun k hk e => by
    have e : w.heap.size + 1 = k := by simpa using e
    omega
  refine ⟨tn.below hb (by omega), Below.trans (by go_grown) (hb.mono (by omega)), fun k hk => ?_⟩
  rcases hrow.2 with ⟨-, e0⟩ | ⟨b, cap2, cur, e, -⟩
  · omega
  · injection e with e1 _ _
    subst e1
    refine ⟨b, rfl, (hrow.lt b rfl).2, ?_⟩
    rw [hrow.cellAt k (by omega)]
    simp [ncells, hk]

set_option maxHeartbeats 16000000 in
theorem checks_some (x : Addr) (cap n ccap : Nat) (ao : Option Addr) (xs : List O) (t : Tab) (g : Nat → Int) (w : World) (h : OpsAt w ao xs) (hcap : xs.length ≤ cap) (hG : Bnds w) (hg : Nl w (some x) n g) (hn : n ≤ 17592186044400) (h60 : xs.length ≤ 60) (hnews : ∀ j u, (ncells n g)[j]? = some u → w.cell? (x.add j) = some u) (hx : n = 0 ∨ x.block < w.heap.size) :
    Calls Tryd.prog 3 #[.slice ao xs.length cap, t.val, .slice (some x) n ccap] w fun e w' => e = .returned (.bool true) ∧ Below w.heap.size w w' := by
  have HCk : Hid (∀ W, Below w.heap.size w W → ∀ a2 c2, (∀ k, k < n → ∃ b, a2 = some ⟨b, 0, none⟩ ∧ b < W.heap.size ∧ W.cell? ⟨b, k, none⟩ = some (.int .i64 (g k))) → Calls Tryd.prog 8 #[.slice ao xs.length cap, .agg #[.int .i64 (t.u 0), .int .i64 (t.u 1), .int .i64 (t.u 2), .int .i64 (t.u 3), .int .i64 (t.l 0), .int .i64 (t.l 1), .int .i64 (t.l 2), .int .i64 (t.l 3), .int .i64 (t.b 0), .int .i64 (t.b 1), .int .i64 (t.b 2), .int .i64 (t.b 3), .int .i64 t.d], .slice a2 n c2] W fun e w' => e = .returned (.bool (ckB t xs n g)) ∧ Below W.heap.size W w') := fun W hb a2 c2 hc => check_any a2 ao n c2 cap xs t g W ⟨fun h0 => by
    obtain ⟨b, e, h1, -⟩ := hc 0 h0
    refine ⟨b, 0, e, h1, fun k hk => ?_⟩
    obtain ⟨b', e', -, h3⟩ := hc k hk
    rw [e] at e'
    injection e' with e'
    injection e' with e' _ _
    rw [Nat.zero_add, e']; exact h3, hg.rg⟩ (h.below hb) hcap (hG.below hb hG.big) (by omega) (by omega)
  have HRc : Hid (∀ W, Below w.heap.size w W → Calls Tryd.prog 9 #[.slice ao xs.length cap, .agg #[.int .i64 (t.u 0), .int .i64 (t.u 1), .int .i64 (t.u 2), .int .i64 (t.u 3), .int .i64 (t.l 0), .int .i64 (t.l 1), .int .i64 (t.l 2), .int .i64 (t.l 3), .int .i64 (t.b 0), .int .i64 (t.b 1), .int .i64 (t.b 2), .int .i64 (t.b 3), .int .i64 t.d], .slice (some x) n ccap] W fun e w' => e = .returned (.bool (ckB t xs n g)) ∧ Below W.heap.size W w') := fun W hb => refCheck_any (some x) ao n ccap cap xs t g W (hg.up hb) (h.below hb) h60 (by omega)
  have HSm : Hid (∀ W, Below w.heap.size w W → ∀ a2 c2, (∀ k, k < n → ∃ b, a2 = some ⟨b, 0, none⟩ ∧ b < W.heap.size ∧ W.cell? ⟨b, k, none⟩ = some (.int .i64 (g k))) → Calls Tryd.prog 10 #[.slice a2 n c2, .slice (some x) n ccap] W fun e w' => e = .returned (.bool true) ∧ Below W.heap.size W w') := fun W hb a2 c2 hc => same_big a2 (some x) n c2 ccap W (by omega) fun k hk => by
    obtain ⟨b, e, h1, h2⟩ := hc k hk
    obtain ⟨b2, f2, e2, h3, h4⟩ := (hg.up hb).is (by omega)
    exact ⟨b, b2, f2, g k, e, e2, h1, h3, h2, h4 k hk⟩
  have HW : Hid (∀ W, Below w.heap.size w W → Calls Tryd.prog 7 #[] W fun e w' => e = .returned (.bool true) ∧ Below W.heap.size W w') := fun W hb => wakes_any W (hG.below hb hG.big)
  have hl : ¬ (60 : Int) < (xs.length : Int) := by omega
  have hni : (n : Int) ≤ 17592186044400 := by omega
  obtain ⟨i0, hi, hi2⟩ := Option.map_eq_some_iff.1 info3b
  simp only [Prod.mk.injEq] at hi2
  obtain ⟨hz0, hz1, hz2⟩ := hi2
  have HI : Hid (Tryd.prog.info? 3 = some i0 ∧ i0.zero = some (.int .i64 0) ∧ i0.size = 1 ∧ i0.bytes = 8) := ⟨hi, hz0, hz1, hz2⟩
  have HOwn : Hid (((w.alloc (.cells t.cells 25)).alloc (.cells #[] 3)).ownsRow (w.heap.size + 1) 3 1 (.slice (some ⟨w.heap.size + 1, 0, none⟩) 0 0) 0 []) := ⟨rfl, .inr ⟨w.heap.size + 1, 0, #[], rfl, Nat.le_refl _, (by have h9 := @Array.getElem?_push_size _ (w.heap.push (.cells t.cells 25)) (.cells #[] 3); rw [Array.size_push] at h9; exact h9), by simp, by unfold maxLen; omega, rfl, rfl⟩⟩
  have HNew : Hid (∀ j u, (ncells n g)[j]? = some u → ((w.alloc (.cells t.cells 25)).alloc (.cells #[] 3)).cell? (x.add j) = some u) := fun j u hu => by
    have h1 := hnews j u hu
    have hb : Below w.heap.size w ((w.alloc (.cells t.cells 25)).alloc (.cells #[] 3)) := by go_grown
    have hn0 : ¬ n = 0 := fun e => by subst e; simp [ncells] at hu
    rcases hx with hx | hx
    · exact absurd hx hn0
    · rw [hb.cell (p := x.add j) (by unfold Addr.add; split <;> simpa using hx)]; exact h1
  clear hnews hx
  clear h hcap hG hg h60 hi hz0 hz1 hz2
  generalize ckB t xs n g = bc at *
  unfold Tab.val
  go_enter Tryd.func3, Tryd.ntmps3
  go_upto_region 4 with (first
    | (at_builtin; refine wpList_append_own _ rfl _ _ 26 rfl (w.heap.size + 1) 3 i0 (.int .i64 0) 1 8 Tryd.underlying26 HI.out.1 HI.out.2.1 HI.out.2.2.1 HI.out.2.2.2 rfl (by decide) _ 0 [] rfl HOwn.out x n ccap (ncells n g) rfl (by simp [ncells]) HNew.out (ncells_one n g) (by unfold maxLen; omega) (by omega) (by simp) ?_; intro v2 w2 hown2 hgrow2 hnil; have hrow0 : w2.ownsRow (w.heap.size + 1) 3 1 v2 n (ncells n g) := (by have := hown2; simp only [Nat.zero_add, List.nil_append] at this; exact this); obtain ⟨a2, c2, hv2, hrow⟩ := row_split hrow0; subst hv2; have HQ0 : Hid (Ls3 w w2 t a2 n g) := ls3_of hgrow2 hrow; clear hown2 hgrow2 hnil hrow0 hrow))
  generalize w2 = WM at *
  have HQ : Hid (Ls3 w WM t a2 n g) := HQ0.out
  have HCk : Hid (∀ W, Below w.heap.size w W → (∀ k, k < n → ∃ b, a2 = some ⟨b, 0, none⟩ ∧ b < W.heap.size ∧ W.cell? ⟨b, k, none⟩ = some (.int .i64 (g k))) → _) := fun W hb hc => HCk.out W hb a2 c2 hc
  have HSm : Hid (∀ W, Below w.heap.size w W → (∀ k, k < n → ∃ b, a2 = some ⟨b, 0, none⟩ ∧ b < W.heap.size ∧ W.cell? ⟨b, k, none⟩ = some (.int .i64 (g k))) → _) := fun W hb hc => HSm.out W hb a2 c2 hc
  clear HQ0 HOwn HNew HI
  refine wp_region_held_drew (S := fun Z => TabAt Z w.heap.size t) (by kernel_rfl) (HQ.out.1.below (drew_up _) HQ.out.1.lt) (fun hHeld => ?_)
  refine wpAnyH_take (i := 0) (v := .slice ao xs.length cap) rfl (by kernel_rfl) (by kernel_rfl) (by kernel_rfl) (fun _ _ _ h => h) (Or.inl ⟨by rfl, fun w' hSw => by (go_simp)⟩) hHeld ?_
  simp only [Act.put, List.setIfInBounds_toArray, List.set_cons_zero, List.set_cons_succ, List.getElem_cons_zero, List.getElem_toArray]
  refine wpAnyH_take (i := 1) (v := .agg #[.int .i64 (t.u 0), .int .i64 (t.u 1), .int .i64 (t.u 2), .int .i64 (t.u 3), .int .i64 (t.l 0), .int .i64 (t.l 1), .int .i64 (t.l 2), .int .i64 (t.l 3), .int .i64 (t.b 0), .int .i64 (t.b 1), .int .i64 (t.b 2), .int .i64 (t.b 3), .int .i64 t.d]) rfl (by kernel_rfl) (by kernel_rfl) (by kernel_rfl) (fun _ _ _ h => h) (Or.inl ⟨by rfl, fun w' hSw => by (have k2 := hSw; have qu0 := k2.cu 0 (by decide); have qu1 := k2.cu 1 (by decide); have qu2 := k2.cu 2 (by decide); have qu3 := k2.cu 3 (by decide); have ql0 := k2.cl 0 (by decide); have ql1 := k2.cl 1 (by decide); have ql2 := k2.cl 2 (by decide); have ql3 := k2.cl 3 (by decide); have qb0 := k2.cb 0 (by decide); have qb1 := k2.cb 1 (by decide); have qb2 := k2.cb 2 (by decide); have qb3 := k2.cb 3 (by decide); have qd := k2.cd; have qz := k2.lt; clear k2; go_simp)⟩) hHeld ?_
  simp only [Act.put, List.setIfInBounds_toArray, List.set_cons_zero, List.set_cons_succ, List.getElem_cons_zero, List.getElem_cons_succ, List.getElem_toArray]
  refine wpAnyH_take (i := 2) (v := .slice a2 n c2) rfl (by kernel_rfl) (by kernel_rfl) (by kernel_rfl) (fun _ _ _ h => h) (Or.inl ⟨by rfl, fun w' hSw => by (go_simp)⟩) hHeld ?_
  simp only [Act.put, List.setIfInBounds_toArray, List.set_cons_zero, List.set_cons_succ, List.getElem_cons_zero, List.getElem_cons_succ, List.getElem_toArray]
  refine wpAnyH_take (i := 4) (v := .slice ao xs.length cap) rfl (by kernel_rfl) (by kernel_rfl) (by kernel_rfl) (fun _ _ _ h => h) (Or.inl ⟨by rfl, fun w' hSw => by (go_simp)⟩) hHeld ?_
  simp only [Act.put, List.setIfInBounds_toArray, List.set_cons_zero, List.set_cons_succ, List.getElem_cons_zero, List.getElem_cons_succ, List.getElem_toArray]
  refine wpAnyH_take (i := 5) (v := .agg #[.int .i64 (t.u 0), .int .i64 (t.u 1), .int .i64 (t.u 2), .int .i64 (t.u 3), .int .i64 (t.l 0), .int .i64 (t.l 1), .int .i64 (t.l 2), .int .i64 (t.l 3), .int .i64 (t.b 0), .int .i64 (t.b 1), .int .i64 (t.b 2), .int .i64 (t.b 3), .int .i64 t.d]) rfl (by kernel_rfl) (by kernel_rfl) (by kernel_rfl) (fun _ _ _ h => h) (Or.inl ⟨by rfl, fun w' hSw => by (have k2 := hSw; have qu0 := k2.cu 0 (by decide); have qu1 := k2.cu 1 (by decide); have qu2 := k2.cu 2 (by decide); have qu3 := k2.cu 3 (by decide); have ql0 := k2.cl 0 (by decide); have ql1 := k2.cl 1 (by decide); have ql2 := k2.cl 2 (by decide); have ql3 := k2.cl 3 (by decide); have qb0 := k2.cb 0 (by decide); have qb1 := k2.cb 1 (by decide); have qb2 := k2.cb 2 (by decide); have qb3 := k2.cb 3 (by decide); have qd := k2.cd; have qz := k2.lt; clear k2; go_simp)⟩) hHeld ?_
  simp only [Act.put, List.setIfInBounds_toArray, List.set_cons_zero, List.set_cons_succ, List.getElem_cons_zero, List.getElem_cons_succ, List.getElem_toArray]
  refine wpAnyH_take (i := 6) (v := .slice (some x) n ccap) rfl (by kernel_rfl) (by kernel_rfl) (by kernel_rfl) (fun _ _ _ h => h) (Or.inl ⟨by rfl, fun w' hSw => by (go_simp)⟩) hHeld ?_
  simp only [Act.put, List.setIfInBounds_toArray, List.set_cons_zero, List.set_cons_succ, List.getElem_cons_zero, List.getElem_cons_succ, List.getElem_toArray]
  have HQd : Hid (Ls3 w WM.drew t a2 n g) := HQ.out.next (drew_up _)
  refine wpAnyH_ready (rs := [3]) (by kernel_rfl) (by simp) ?_
  refine AllReadyH.cons rfl (fun K hK => ?_) AllReadyH.nil
  go_simp
  refine Calls.mono (HCk.out _ HQd.out.2.1 HQd.out.2.2) ?_
  rintro e w3 ⟨rfl, b3⟩
  have HQ3 : Hid (Ls3 w w3 t a2 n g) := HQd.out.next b3
  clear b3 HCk
  refine hK.out _ _ HQ3.out.1 (fun hHeld => ?_)
  clear hK K
  refine wpAnyH_ready (rs := [7]) (by kernel_rfl) (by simp) ?_
  refine AllReadyH.cons rfl (fun K hK => ?_) AllReadyH.nil
  go_simp
  refine Calls.mono (HRc.out _ HQ3.out.2.1) ?_
  rintro e w4 ⟨rfl, b7⟩
  have HQ7 : Hid (Ls3 w w4 t a2 n g) := HQ3.out.next b7
  clear b7 HRc
  refine hK.out _ _ HQ7.out.1 (fun hHeld => ?_)
  clear hK K
  refine wpAnyH_take (i := 8) (v := .bool true) rfl (by kernel_rfl) (by kernel_rfl) (by kernel_rfl) (fun _ _ _ h => h) (Or.inl ⟨by rfl, fun w' hSw => by (go_simp)⟩) hHeld ?_
  simp only [Act.put, List.setIfInBounds_toArray, List.set_cons_zero, List.set_cons_succ, List.getElem_cons_zero, List.getElem_cons_succ, List.getElem_toArray]
  refine wpAnyH_take (i := 9) (v := .bool true) rfl (by kernel_rfl) (by kernel_rfl) (by kernel_rfl) (fun _ _ _ h => h) (Or.inl ⟨by rfl, fun w' hSw => by (go_simp)⟩) hHeld ?_
  simp only [Act.put, List.setIfInBounds_toArray, List.set_cons_zero, List.set_cons_succ, List.getElem_cons_zero, List.getElem_cons_succ, List.getElem_toArray]
  refine wpAnyH_take (i := 10) (v := .slice a2 n c2) rfl (by kernel_rfl) (by kernel_rfl) (by kernel_rfl) (fun _ _ _ h => h) (Or.inl ⟨by rfl, fun w' hSw => by (go_simp)⟩) hHeld ?_
  simp only [Act.put, List.setIfInBounds_toArray, List.set_cons_zero, List.set_cons_succ, List.getElem_cons_zero, List.getElem_cons_succ, List.getElem_toArray]
  refine wpAnyH_take (i := 11) (v := .slice (some x) n ccap) rfl (by kernel_rfl) (by kernel_rfl) (by kernel_rfl) (fun _ _ _ h => h) (Or.inl ⟨by rfl, fun w' hSw => by (go_simp)⟩) hHeld ?_
  simp only [Act.put, List.setIfInBounds_toArray, List.set_cons_zero, List.set_cons_succ, List.getElem_cons_zero, List.getElem_cons_succ, List.getElem_toArray]
  refine wpAnyH_ready (rs := [12]) (by kernel_rfl) (by simp) ?_
  refine AllReadyH.cons rfl (fun K hK => ?_) AllReadyH.nil
  go_simp
  refine Calls.mono (HSm.out _ HQ7.out.2.1 HQ7.out.2.2) ?_
  rintro e w5 ⟨rfl, b12⟩
  have HQ12 : Hid (Ls3 w w5 t a2 n g) := HQ7.out.next b12
  clear b12 HSm
  refine hK.out _ _ HQ12.out.1 (fun hHeld => ?_)
  clear hK K
  refine wpAnyH_take (i := 13) (v := .bool true) rfl (by kernel_rfl) (by kernel_rfl) (by kernel_rfl) (fun _ _ _ h => h) (Or.inl ⟨by rfl, fun w' hSw => by (go_simp)⟩) hHeld ?_
  simp only [Act.put, List.setIfInBounds_toArray, List.set_cons_zero, List.set_cons_succ, List.getElem_cons_zero, List.getElem_cons_succ, List.getElem_toArray]
  refine wpAnyH_take (i := 14) (v := .bool true) rfl (by kernel_rfl) (by kernel_rfl) (by kernel_rfl) (fun _ _ _ h => h) (Or.inl ⟨by rfl, fun w' hSw => by (go_simp)⟩) hHeld ?_
  simp only [Act.put, List.setIfInBounds_toArray, List.set_cons_zero, List.set_cons_succ, List.getElem_cons_zero, List.getElem_cons_succ, List.getElem_toArray]
  refine wpAnyH_ready (rs := [15]) (by kernel_rfl) (by simp) ?_
  refine AllReadyH.cons rfl (fun K hK => ?_) AllReadyH.nil
  go_simp
  refine Calls.mono (HW.out _ HQ12.out.2.1) ?_
  rintro e w6 ⟨rfl, b15⟩
  have HQ15 : Hid (Ls3 w w6 t a2 n g) := HQ12.out.next b15
  clear b15 HW
  refine hK.out _ _ HQ15.out.1 (fun hHeld => ?_)
  clear hK K
  refine wpAnyH_take (i := 16) (v := .bool true) rfl (by kernel_rfl) (by kernel_rfl) (by kernel_rfl) (fun _ _ _ h => h) (Or.inl ⟨by rfl, fun w' hSw => by (go_simp)⟩) hHeld ?_
  simp only [Act.put, List.setIfInBounds_toArray, List.set_cons_zero, List.set_cons_succ, List.getElem_cons_zero, List.getElem_cons_succ, List.getElem_toArray]
  refine wpAnyH_take (i := 17) (v := .bool true) rfl (by kernel_rfl) (by kernel_rfl) (by kernel_rfl) (fun _ _ _ h => h) (Or.inl ⟨by rfl, fun w' hSw => by (go_simp)⟩) hHeld ?_
  simp only [Act.put, List.setIfInBounds_toArray, List.set_cons_zero, List.set_cons_succ, List.getElem_cons_zero, List.getElem_cons_succ, List.getElem_toArray]
  refine wpAnyH_done (by kernel_rfl) ?_ _
  clear hHeld
  go_wp2_with fail
  go_ret
  exact ⟨rfl, HQ15.out.2.1⟩
end Go.Proofs.YtnckkhamkkaljaaDoor.Ls

namespace Go.Proofs.YtnckkhamkkaljaaDoor.Op
open Go.ChangeShapes Go.WideShapes Go.ChangeAt Go.RowKit
open Tb (Tab)
theorem wf64 {n : Int} (h : (Lit.int .i64 n).wf = true) : -9223372036854775808 ≤ n ∧ n ≤ 9223372036854775807 := by
  simp [Lit.wf, IntKind.min, IntKind.max, IntKind.signed, IntKind.bits] at h
  omega
theorem wf8 {n : Int} (h : (Lit.int .i8 n).wf = true) : -128 ≤ n ∧ n ≤ 127 := by
  simp [Lit.wf, IntKind.min, IntKind.max, IntKind.signed, IntKind.bits] at h
  omega
theorem wfu8 {n : Int} (h : (Lit.int .u8 n).wf = true) : 0 ≤ n ∧ n ≤ 255 := by
  simp [Lit.wf, IntKind.min, IntKind.max, IntKind.signed, IntKind.bits] at h
  omega
theorem own : ownKnob Tryd.prog.godebug = none := by kernel_rfl
set_option maxRecDepth 20000 in
/-- A pair of bounds, out of its reading. -/
theorem bnd_of {W : World} {n : String} {g : Nat} {a b : Int} (h : Lib.VarReads Tryd.prog W n (.agg [.lit (.int .i64 a), .lit (.int .i64 b)])) (hg : Tryd.prog.globalNamed n = some g) (ht : (Tryd.prog.globals[g]?).map (·.type) = some 106) :
    W.cell? ⟨g, 0, none⟩ = some (.int .i64 a) ∧ W.cell? ⟨g, 1, none⟩ = some (.int .i64 b) := by
  obtain ⟨g0, t0, cs, fuel, p, h1, h2, h3, h4⟩ := h
  obtain rfl := Option.some.inj (hg.symm.trans h1)
  obtain rfl := Option.some.inj (ht.symm.trans h2)
  obtain ⟨y0, y1, n', hx, hl, e0, e1⟩ := trod_struct2 Tryd.underlying106 h4
  have c3 : Tryd.prog.cellsOf 3 = 1 := by kernel_rfl
  have c62 : Tryd.prog.cellsOf 106 = 2 := by kernel_rfl
  obtain ⟨k0, f0, f1, _⟩ := DataW.trod_int Tryd.underlying3 e0
  obtain ⟨k1, f2, f3, _⟩ := DataW.trod_int Tryd.underlying3 e1
  rw [c3] at f0 f2
  rw [c62] at hl
  obtain ⟨l⟩ := cs
  match l, hl with
  | [v0, v1], _ =>
    simp at f0 f2
    subst f0 f2
    simp [f1, f3] at hx
    obtain ⟨⟨rfl, rfl⟩, _⟩ := hx
    exact ⟨by simpa using World.var?_cell h1 h3 0, by simpa using World.var?_cell h1 h3 1⟩
theorem trod_bool1 {H : Type} {enc : TypeId × Value → H} {W : World} {base fuel : Nat} {sp : Nat → Bool} {held : Bool} {c : Value} {y : DataW H × List MemPlace} (h : DataW.trod enc Tryd.prog W base sp held fuel 4 [c] = some y) : ∃ b : Bool, c = .bool b ∧ y.1 = .lit (.bool b) := by
  obtain ⟨b, e, f⟩ := DataW.trod_bool Tryd.underlying4 h
  exact ⟨b, by simpa using e, by rw [f]⟩
def laid4 : List (String × DataW Unit) := [("hayloft/table.unitsBounds", Rows.laid_hayloft_table_unitsBounds), ("hayloft/table.latBounds", Rows.laid_hayloft_table_latBounds), ("hayloft/table.busyBounds", Rows.laid_hayloft_table_busyBounds), ("hayloft/table.delayBounds", Rows.laid_hayloft_table_delayBounds)]
theorem big_of {W : World} (hsh : W.ShapedOpen Tryd.prog) : 5 ≤ W.heap.size := by
  have globs : Tryd.prog.globals.size = 4 := by kernel_rfl
  have big : 5 < (begin Tryd.prog (fun _ _ => 0) default).world.heap.size := of_decide_eq_true (by kernel_rfl)
  obtain ⟨o, o0, h1, _⟩ := hsh.2 5 (by rw [globs]; decide) big
  rcases Nat.lt_or_ge 5 W.heap.size with h | h
  · omega
  · rw [Array.getElem?_eq_none h] at h1; cases h1
set_option maxRecDepth 20000 in
theorem bnds_of {W : World} {l : List (String × DataW Unit)} (hP : laidMet Tryd.prog l W) (hu : ("hayloft/table.unitsBounds", Rows.laid_hayloft_table_unitsBounds) ∈ l) (hl : ("hayloft/table.latBounds", Rows.laid_hayloft_table_latBounds) ∈ l) (hb : ("hayloft/table.busyBounds", Rows.laid_hayloft_table_busyBounds) ∈ l) (hd : ("hayloft/table.delayBounds", Rows.laid_hayloft_table_delayBounds) ∈ l) (hz : 5 ≤ W.heap.size) : Tb.Bnds W := by
  have hd := bnd_of (Lib.laidMet.reads hP (n := "hayloft/table.delayBounds") (d := Rows.laid_hayloft_table_delayBounds) hd) (g := 0) (by kernel_rfl) (by kernel_rfl)
  have hu := bnd_of (Lib.laidMet.reads hP (n := "hayloft/table.unitsBounds") (d := Rows.laid_hayloft_table_unitsBounds) hu) (g := 1) (by kernel_rfl) (by kernel_rfl)
  have hl := bnd_of (Lib.laidMet.reads hP (n := "hayloft/table.latBounds") (d := Rows.laid_hayloft_table_latBounds) hl) (g := 2) (by kernel_rfl) (by kernel_rfl)
  have hb := bnd_of (Lib.laidMet.reads hP (n := "hayloft/table.busyBounds") (d := Rows.laid_hayloft_table_busyBounds) hb) (g := 3) (by kernel_rfl) (by kernel_rfl)
  exact ⟨hd.1, hd.2, hu.1, hu.2, hl.1, hl.2, hb.1, hb.2, hz⟩
theorem env4 {W : World} (hL : laidMetH Tryd.prog laid4 W) (hsh : W.ShapedOpen Tryd.prog) : Tb.Bnds W :=
  bnds_of (l := laid4) hL (by simp [laid4]) (by simp [laid4]) (by simp [laid4]) (by simp [laid4]) (big_of hsh)
set_option maxRecDepth 100000 in
/-- The wrap: what the listed variables hold, and the world's shape, are handed to the contract. -/
theorem wrap {H : Type} {enc : TypeId × Value → H} {os : Os} {f : FuncId} {fn : Func} {s : ChangeSpec} {lv : List (String × DataW Unit)} (started : os.Started) (noInit : Tryd.prog.inits.idxOf? f = none) (hfn : Tryd.prog.funcs[f]? = some fn)
    (witness : ∃ (w : World) (tape : Tape) (i : Input), w.os = os ∧ (w.forCall tape i).Shaped Tryd.prog ∧ i.vars = [] ∧ Input.okWide Tryd.prog (w.forCall tape i) .any w.heap.size f i ∧
      ((s.pre enc Tryd.prog fn [] false (w.forCall tape i).memory i.args ∧ laidMetH Tryd.prog lv (w.forCall tape i).memory) ∧ sizedMet enc Tryd.prog fn (OpenSpec.ofChange s) false (w.forCall tape i).memory i.args) ∧ Assume.holds {} Tryd.prog (lone (Frame.enter Tryd.prog f i.args .normal) [] (w.forCall tape i)))
    (contract : ∀ (W : World) (base : Nat) (args : Array Value) (ds gs : List (DataW H)) (before : List MemPlace),
      (∀ (j : Nat) t v, fn.params[j]? = some t → args[j]? = some v → Value.okWide Tryd.prog W .any base t v) →
      DataW.Whole enc Tryd.prog fn.params.toList s.vars false W args.toList ds gs before →
      (DataW.weightsEach Tryd.prog (fn.params.toList ++ s.plain.varTypes Tryd.prog) (ds ++ gs)).all (· ≤ reachBytes) = true →
      laidMetH Tryd.prog lv W → W.ShapedOpen Tryd.prog →
      Calls Tryd.prog f args W fun e W' => ∃ v, e = .returned v ∧ s.post enc Tryd.prog fn false true false false W args v W') :
    ReturnsInHanded {} Tryd.checked os f .any (fun w args => (s.pre enc Tryd.prog fn [] false w args ∧ laidMetH Tryd.prog lv w) ∧ sizedMet enc Tryd.prog fn (OpenSpec.ofChange s) false w args) (s.post enc Tryd.prog fn false true false false) := by
  refine returnsInHanded_of_calls (C := Tryd.checked) own started noInit witness ?_
  intro w tape i _ hsh _ hok hpre hholds
  obtain ⟨_, _, _, fn', hfn', _, _, _, _, hval⟩ := hok
  have e : fn' = fn := Option.some.inj (hfn'.symm.trans hfn)
  subst e
  obtain ⟨⟨⟨ds, gs, before, hw, hc⟩, hx⟩, hz⟩ := hpre
  have hw' := DataW.Whole.of_heap (w' := w.forCall tape i) (by rfl) hw
  refine (contract (w.forCall tape i) w.heap.size i.args ds gs before hval hw' (hz.weights hw) (hx.of_heap (by rfl)) hsh).mono fun e W' ⟨v, he, hp⟩ => ?_
  subst he
  exact ChangeSpec.post_blind hp
set_option maxRecDepth 100000 in
theorem wit_met4 (os : Os) (args : Array Value) : laidMetH Tryd.prog laid4 ((((World.holding Tryd.prog os ⟨#[], #[], []⟩).layVars Tryd.prog laid4).forCall (fun _ _ => 0) ⟨#[], args, []⟩).memory) := by
  refine laidMetH_of_parts ?_ (by kernel_rfl)
  have h : laidMet Tryd.prog laid4 ((World.holding Tryd.prog os ⟨#[], #[], []⟩).layVars Tryd.prog laid4) :=
    laidMet_layVars (w0 := World.holding Tryd.prog os ⟨#[], #[], []⟩) ["hayloft/table.unitsBounds", "hayloft/table.latBounds", "hayloft/table.busyBounds", "hayloft/table.delayBounds"] [] (by rw [show (laid4.filter fun x => (["hayloft/table.unitsBounds", "hayloft/table.latBounds", "hayloft/table.busyBounds", "hayloft/table.delayBounds"] : List String).contains x.1) = laid4 from by kernel_rfl]) (by kernel_rfl) (by kernel_rfl) (by rw [show (laid4.filter fun x => !(["hayloft/table.unitsBounds", "hayloft/table.latBounds", "hayloft/table.busyBounds", "hayloft/table.delayBounds"] : List String).contains x.1) = [] from by kernel_rfl]; exact LaidIn.none)
  exact h.of_heap (by simp [World.memory, World.forCall, Input.heap])
theorem wit_os4 (os : Os) : ((World.holding Tryd.prog os ⟨#[], #[], []⟩).layVars Tryd.prog laid4).os = os := World.layVars_os _ _ _
theorem tySize : Tryd.prog.types.size = 160 := by kernel_rfl
theorem laidOut : laidOutB Tryd.prog = true := by kernel_rfl
theorem trod_ints4 {H : Type} {enc : TypeId × Value → H} {W : World} {base fuel : Nat} {sp : Nat → Bool} {held : Bool} {c0 c1 c2 c3 : Value} {y : DataW H × List MemPlace} (h : DataW.trod enc Tryd.prog W base sp held fuel 23 [c0, c1, c2, c3] = some y) :
    ∃ a b c d : Int, c0 = .int .i64 a ∧ c1 = .int .i64 b ∧ c2 = .int .i64 c ∧ c3 = .int .i64 d ∧ y.2 = [] := by
  obtain ⟨xs, m, _, hx, _, hn, he⟩ := DataW.trod_array Tryd.underlying23 h
  have k3 : Tryd.prog.cellsOf 3 = 1 := by kernel_rfl
  rw [k3] at he
  have h0 := he 0 (by omega)
  have h1 := he 1 (by omega)
  have h2 := he 2 (by omega)
  have h3 := he 3 (by omega)
  match xs, hn with
  | [x0, x1, x2, x3], _ =>
    obtain ⟨a, a1, a2, _⟩ := DataW.trod_int Tryd.underlying3 h0
    obtain ⟨b, b1, b2, _⟩ := DataW.trod_int Tryd.underlying3 h1
    obtain ⟨c, c1', c2', _⟩ := DataW.trod_int Tryd.underlying3 h2
    obtain ⟨d, d1, d2, _⟩ := DataW.trod_int Tryd.underlying3 h3
    simp at a1 b1 c1' d1
    refine ⟨a, b, c, d, a1, b1, c1', d1, ?_⟩
    rw [hx]; simp [a2, b2, c2', d2]
def ofFour (a b c d : Int) : Nat → Int := fun k => if k = 0 then a else if k = 1 then b else if k = 2 then c else d
set_option maxRecDepth 100000 in
theorem open_tab {H : Type} {enc : TypeId × Value → H} {W : World} {r : Reach} {b0 base : Nat} {sp : Nat → Bool} {held : Bool} {v : Value} {d : DataW H} {p : List MemPlace} (hv : Value.okWide Tryd.prog W r b0 25 v) (h : DataW.Trod enc Tryd.prog W base sp held 25 v d p) : (∃ t : Tab, v = t.val) ∧ p = [] := by
  obtain ⟨cs, rfl, hsz⟩ := okWide_struct Tryd.underlying25 hv
  have k27 : Tryd.prog.cellsOf 25 = 13 := by kernel_rfl
  have k25 : Tryd.prog.cellsOf 23 = 4 := by kernel_rfl
  have k3 : Tryd.prog.cellsOf 3 = 1 := by kernel_rfl
  rw [k27] at hsz
  obtain ⟨l⟩ := cs
  clear hv
  match l, hsz with
  | [c0, c1, c2, c3, c4, c5, c6, c7, c8, c9, c10, c11, c12], _ =>
    obtain ⟨fuel, hf⟩ := h
    obtain ⟨y0, y1, y2, y3, n, hx, _, h0, h1, h2, h3⟩ := Joins.trod_struct4 Tryd.underlying25 hf
    rw [k25] at h0 h1 h2
    rw [k3] at h3
    obtain ⟨a0, a1, a2, a3, rfl, rfl, rfl, rfl, e0⟩ := trod_ints4 h0
    obtain ⟨l0, l1, l2, l3, rfl, rfl, rfl, rfl, e1⟩ := trod_ints4 h1
    obtain ⟨b0, b1, b2, b3, rfl, rfl, rfl, rfl, e2⟩ := trod_ints4 h2
    obtain ⟨dd, f1, f2, _⟩ := DataW.trod_int Tryd.underlying3 h3
    have f1' : [c12] = [Value.int .i64 dd] := f1
    obtain rfl : c12 = .int .i64 dd := by simpa using f1'
    refine ⟨⟨⟨ofFour a0 a1 a2 a3, ofFour l0 l1 l2 l3, ofFour b0 b1 b2 b3, dd⟩, rfl⟩, ?_⟩
    simp [e0, e1, e2, f2] at hx
    exact hx.2
theorem trod_struct5 {H : Type} {enc : TypeId × Value → H} {P : Program} {w : World} {base : Nat} {spare : Nat → Bool} {held : Bool} {t : TypeId} {f0 f1 f2 f3 f4 : Field} {fuel : Nat} {cs : List Value} {x : DataW H × List MemPlace} (ht : P.underlying t = some (.struct #[f0, f1, f2, f3, f4])) (h : DataW.trod enc P w base spare held fuel t cs = some x) :
    ∃ y0 y1 y2 y3 y4 n, x = (.agg [y0.1, y1.1, y2.1, y3.1, y4.1], y0.2 ++ (y1.2 ++ (y2.2 ++ (y3.2 ++ y4.2)))) ∧ cs.length = P.cellsOf t ∧ DataW.trod enc P w base spare held n f0.type ((cs.drop f0.offset).take (P.cellsOf f0.type)) = some y0 ∧
      DataW.trod enc P w base spare held n f1.type ((cs.drop f1.offset).take (P.cellsOf f1.type)) = some y1 ∧ DataW.trod enc P w base spare held n f2.type ((cs.drop f2.offset).take (P.cellsOf f2.type)) = some y2 ∧
      DataW.trod enc P w base spare held n f3.type ((cs.drop f3.offset).take (P.cellsOf f3.type)) = some y3 ∧ DataW.trod enc P w base spare held n f4.type ((cs.drop f4.offset).take (P.cellsOf f4.type)) = some y4 := by
  obtain ⟨xs, n, _, rfl, hl, hlen, hf⟩ := DataW.trod_struct ht h
  match xs, hlen with
  | [y0, y1, y2, y3, y4], _ => exact ⟨y0, y1, y2, y3, y4, n, by simp, hl, by simpa using hf 0 f0 rfl, by simpa using hf 1 f1 rfl, by simpa using hf 2 f2 rfl, by simpa using hf 3 f3 rfl, by simpa using hf 4 f4 rfl⟩
set_option maxRecDepth 20000
theorem opsAt_nil (w : World) (ao : Option Addr) : OpsAt w ao [] := ⟨by simp, by simp, fun h => by simp at h⟩
theorem reach_eq : reachBytes = 140737488351232 := rfl
theorem addr_add (b f : Nat) (n : Nat) : (⟨b, f, none⟩ : Addr).add n = ⟨b, f + n, none⟩ := by
  unfold Addr.add
  split
  · rename_i h; subst h; rfl
  · rfl
/-- Cells in a row, told by block and offset. -/
theorem cells_at {w : World} {b f n : Nat} {cs : List Value} (h : w.cells? 0 ⟨b, f, none⟩ n = some cs) (hn : 0 < n) : b < w.heap.size ∧ ∀ i v, cs[i]? = some v → w.cell? ⟨b, f + i, none⟩ = some v := by
  obtain ⟨_, hl, hc⟩ := World.cells?_some h
  refine ⟨World.cells?_block h hn, fun i v e => ?_⟩
  have hi : i < n := by
    rcases Nat.lt_or_ge i n with h | h
    · exact h
    · rw [List.getElem?_eq_none (by omega)] at e; cases e
  have := hc i hi
  rw [addr_add, e] at this
  exact this
theorem spot_none {w : World} {a : Addr} {n : Nat} {cs : List Value} (h : w.cells? 0 a n = some cs) (hn : 0 < n) : a = ⟨a.block, a.off, none⟩ := by
  obtain ⟨_, hl, hc⟩ := World.cells?_some h
  have h0 := hc 0 hn
  have ha : a.add 0 = a := by unfold Addr.add; simp
  rw [ha, List.getElem?_eq_getElem (by omega)] at h0
  obtain ⟨b, f, s⟩ := a
  cases s with
  | none => rfl
  | some s =>
    unfold World.cell? at h0
    split at h0
    · simp at h0
    · cases h0
theorem weightsAll_mem {H : Type} {P : Program} {e : TypeId} {d : DataW H} {n : Nat} : ∀ {l : List (DataW H)}, d ∈ l → n ∈ d.weights P e → n ∈ DataW.weightsAll P e l
  | x :: r, hd, hn => by
    unfold DataW.weightsAll
    rcases List.mem_cons.1 hd with rfl | hd
    · exact List.mem_append_left _ hn
    · exact List.mem_append_right _ (weightsAll_mem hd hn)
/-- One operation, out of its cells. -/
theorem open_o {H : Type} {enc : TypeId × Value → H} {W : World} {base fuel : Nat} {sp : Nat → Bool} {held : Bool} {cs : List Value} {y : DataW H × List MemPlace} (h : DataW.trod enc Tryd.prog W base sp held fuel 40 cs = some y) : ∃ o : O, o.Ok ∧ cs = [.int .i8 o.op, .int .u8 o.d, .int .u8 o.a, .int .u8 o.b, .int .i64 o.im] := by
  have k49 : Tryd.prog.cellsOf 40 = 5 := by kernel_rfl
  have k38 : Tryd.prog.cellsOf 38 = 1 := by kernel_rfl
  have k5 : Tryd.prog.cellsOf 5 = 1 := by kernel_rfl
  have k2 : Tryd.prog.cellsOf 2 = 1 := by kernel_rfl
  obtain ⟨y0, y1, y2, y3, y4, n, hx, hl, h0, h1, h2, h3, h4⟩ := trod_struct5 Tryd.underlying40 h
  rw [k49] at hl
  match cs, hl with
  | [c0, c1, c2, c3, c4], _ =>
    rw [k38] at h0
    rw [k5] at h1 h2 h3
    rw [k2] at h4
    obtain ⟨a, a1, a2, a3⟩ := DataW.trod_int Tryd.underlying38 h0
    obtain ⟨b, b1, b2, b3⟩ := DataW.trod_int Tryd.underlying5 h1
    obtain ⟨c, c1', c2', c3'⟩ := DataW.trod_int Tryd.underlying5 h2
    obtain ⟨e, e1, e2, e3⟩ := DataW.trod_int Tryd.underlying5 h3
    obtain ⟨g, g1, g2, g3⟩ := DataW.trod_int Tryd.underlying2 h4
    have a1' : [c0] = [Value.int .i8 a] := a1
    have b1' : [c1] = [Value.int .u8 b] := b1
    have c1'' : [c2] = [Value.int .u8 c] := c1'
    have e1' : [c3] = [Value.int .u8 e] := e1
    have g1' : [c4] = [Value.int .i64 g] := g1
    obtain rfl : c0 = .int .i8 a := by simpa using a1'
    obtain rfl : c1 = .int .u8 b := by simpa using b1'
    obtain rfl : c2 = .int .u8 c := by simpa using c1''
    obtain rfl : c3 = .int .u8 e := by simpa using e1'
    obtain rfl : c4 = .int .i64 g := by simpa using g1'
    have w0 := wf8 a3
    have w1 := wfu8 b3
    have w2 := wfu8 c3'
    have w3 := wfu8 e3
    have w4 := wf64 g3
    exact ⟨⟨a, b, c, e, g⟩, ⟨w0.1, w0.2, w1.1, w1.2, w2.1, w2.2, w3.1, w3.2, w4.1, w4.2⟩, rfl⟩
/-- A list of operations, out of its cell. -/
theorem open_list {H : Type} {enc : TypeId × Value → H} {W : World} {fuel : Nat} {held : Bool} {cs : List Value} {y : DataW H × List MemPlace} (h : DataW.trod enc Tryd.prog W 0 (fun _ => true) held fuel 22 cs = some y) (hw : ∀ n, n ∈ y.1.weights Tryd.prog 22 → n ≤ reachBytes) :
    ∃ (ao : Option Addr) (cap : Nat) (xs : List O), cs = [.slice ao xs.length cap] ∧ OpsAt W ao xs ∧ xs.length ≤ cap := by
  have k49 : Tryd.prog.cellsOf 40 = 5 := by kernel_rfl
  have b49 : Tryd.prog.bytesOf 40 = 16 := by kernel_rfl
  rcases Deep.open_slice Tryd.underlying22 h with ⟨rfl, rfl⟩ | ⟨a, len, cap, m, n, D, Pl, rfl, _, hlc, _, hm, rfl, hx⟩
  · exact ⟨none, 0, [], rfl, opsAt_nil _ _, by simp⟩
  · have hmc : m = cap := by simpa using hm
    subst hmc
    have hcap : m * 16 ≤ reachBytes := by
      refine hw _ ?_
      unfold DataW.weights
      simp only [Tryd.underlying22, b49]
      refine List.mem_cons.2 (.inl ?_)
      simp; omega
    rw [reach_eq] at hcap
    rw [k49] at hx
    haveI : Inhabited O := ⟨⟨0, 0, 0, 0, 0⟩⟩
    obtain ⟨X, hX⟩ := Deep.choose_lt (α := O) (n := len) (p := fun i o => o.Ok ∧ W.cells? 0 (a.add (i * 5)) 5 = some [.int .i8 o.op, .int .u8 o.d, .int .u8 o.a, .int .u8 o.b, .int .i64 o.im]) (fun i hi => by
      obtain ⟨cs', h1, h2⟩ := hx i (by omega)
      obtain ⟨o, ho, rfl⟩ := open_o h2
      exact ⟨o, ho, h1⟩)
    refine ⟨some a, m, (List.range len).map X, by simp, ⟨fun o ho => ?_, by simp; omega, fun h0 => ?_⟩, by simp; omega⟩
    · obtain ⟨i, hi, rfl⟩ := List.mem_map.1 ho
      exact (hX i (List.mem_range.1 hi)).1
    · have h0' : 0 < len := by simpa using h0
      have ha : a = ⟨a.block, a.off, none⟩ := by
        have := (hX 0 h0').2
        rw [show a.add (0 * 5) = a by unfold Addr.add; simp] at this
        exact spot_none this (by omega)
      refine ⟨a.block, a.off, by rw [← ha], ?_, fun i hi => ?_⟩
      · have := (hX 0 h0').2
        rw [ha, addr_add] at this
        exact (cells_at this (by omega)).1
      · have hi' : i < len := by simpa using hi
        have := (hX i hi').2
        rw [ha, addr_add] at this
        have hc := (cells_at this (by omega)).2
        simp only [List.getElem_map, List.getElem_range]
        exact ⟨hc 0 _ rfl, hc 1 _ rfl, hc 2 _ rfl, hc 3 _ rfl, hc 4 _ rfl⟩
theorem open_ops {H : Type} {enc : TypeId × Value → H} {W : World} {r : Reach} {b0 : Nat} {held : Bool} {v : Value} {d : DataW H} {p : List MemPlace} (hv : Value.okWide Tryd.prog W r b0 22 v) (h : DataW.Trod enc Tryd.prog W 0 (fun _ => true) held 22 v d p) (hw : ∀ n, n ∈ d.weights Tryd.prog 22 → n ≤ reachBytes) :
    ∃ (ao : Option Addr) (cap : Nat) (xs : List O), v = .slice ao xs.length cap ∧ OpsAt W ao xs ∧ xs.length ≤ cap := by
  obtain ⟨a, len, cap, rfl⟩ := okWide_slice Tryd.underlying22 hv
  obtain ⟨fuel, hf⟩ := h
  have hf' : DataW.trod enc Tryd.prog W 0 (fun _ => true) held fuel 22 [.slice a len cap] = some (d, p) := hf
  obtain ⟨ao, c, xs, e, h1, h2⟩ := open_list hf' hw
  exact ⟨ao, c, xs, by simpa using e, h1, h2⟩
end Go.Proofs.YtnckkhamkkaljaaDoor.Op

namespace Go.Proofs.YtnckkhamkkaljaaDoor.Ls
open Go.ChangeShapes Go.WideShapes Go.ChangeAt Go.RowKit
open _root_.Go.Proofs.YtnckkhamkkaljaaDoor.Op _root_.Go.Proofs.YtnckkhamkkaljaaDoor.So _root_.Go.Proofs.YtnckkhamkkaljaaDoor.Dp _root_.Go.Proofs.YtnckkhamkkaljaaDoor.ListWay
open _root_.Go.Proofs.YtnckkhamkkaljaaDoor.Tb (Tab TabAt Bnds)
set_option maxRecDepth 20000

set_option maxHeartbeats 16000000 in
theorem checks_none (cap : Nat) (ao : Option Addr) (xs : List O) (t : Tab) (g : Nat → Int) (w : World) (h : OpsAt w ao xs) (hcap : xs.length ≤ cap) (hG : Bnds w) (hg : Nl w none 0 g) (h60 : xs.length ≤ 60) :
    Calls Tryd.prog 3 #[.slice ao xs.length cap, t.val, .slice none 0 0] w fun e w' => e = .returned (.bool true) ∧ Below w.heap.size w w' := by
  have HCk : Hid (∀ W, Below w.heap.size w W → ∀ a2 c2, (∀ k, k < 0 → ∃ b, a2 = some ⟨b, 0, none⟩ ∧ b < W.heap.size ∧ W.cell? ⟨b, k, none⟩ = some (.int .i64 (g k))) → Calls Tryd.prog 8 #[.slice ao xs.length cap, .agg #[.int .i64 (t.u 0), .int .i64 (t.u 1), .int .i64 (t.u 2), .int .i64 (t.u 3), .int .i64 (t.l 0), .int .i64 (t.l 1), .int .i64 (t.l 2), .int .i64 (t.l 3), .int .i64 (t.b 0), .int .i64 (t.b 1), .int .i64 (t.b 2), .int .i64 (t.b 3), .int .i64 t.d], .slice a2 0 c2] W fun e w' => e = .returned (.bool (ckB t xs 0 g)) ∧ Below W.heap.size W w') := fun W hb a2 c2 hc => check_any a2 ao 0 c2 cap xs t g W ⟨fun h0 => by
    obtain ⟨b, e, h1, -⟩ := hc 0 h0
    refine ⟨b, 0, e, h1, fun k hk => ?_⟩
    obtain ⟨b', e', -, h3⟩ := hc k hk
    rw [e] at e'
    injection e' with e'
    injection e' with e' _ _
    rw [Nat.zero_add, e']; exact h3, hg.rg⟩ (h.below hb) hcap (hG.below hb hG.big) (by omega) (by omega)
  have HRc : Hid (∀ W, Below w.heap.size w W → Calls Tryd.prog 9 #[.slice ao xs.length cap, .agg #[.int .i64 (t.u 0), .int .i64 (t.u 1), .int .i64 (t.u 2), .int .i64 (t.u 3), .int .i64 (t.l 0), .int .i64 (t.l 1), .int .i64 (t.l 2), .int .i64 (t.l 3), .int .i64 (t.b 0), .int .i64 (t.b 1), .int .i64 (t.b 2), .int .i64 (t.b 3), .int .i64 t.d], .slice none 0 0] W fun e w' => e = .returned (.bool (ckB t xs 0 g)) ∧ Below W.heap.size W w') := fun W hb => refCheck_any none ao 0 0 cap xs t g W (hg.up hb) (h.below hb) h60 (by omega)
  have HSm : Hid (∀ W, Below w.heap.size w W → ∀ a2 c2, (∀ k, k < 0 → ∃ b, a2 = some ⟨b, 0, none⟩ ∧ b < W.heap.size ∧ W.cell? ⟨b, k, none⟩ = some (.int .i64 (g k))) → Calls Tryd.prog 10 #[.slice a2 0 c2, .slice none 0 0] W fun e w' => e = .returned (.bool true) ∧ Below W.heap.size W w') := fun W hb a2 c2 hc => same_big a2 none 0 c2 0 W (by omega) fun k hk => by
    obtain ⟨b, e, h1, h2⟩ := hc k hk
    obtain ⟨b2, f2, e2, h3, h4⟩ := (hg.up hb).is (by omega)
    exact ⟨b, b2, f2, g k, e, e2, h1, h3, h2, h4 k hk⟩
  have HW : Hid (∀ W, Below w.heap.size w W → Calls Tryd.prog 7 #[] W fun e w' => e = .returned (.bool true) ∧ Below W.heap.size W w') := fun W hb => wakes_any W (hG.below hb hG.big)
  have hl : ¬ (60 : Int) < (xs.length : Int) := by omega
  obtain ⟨i0, hi, hi2⟩ := Option.map_eq_some_iff.1 info3b
  simp only [Prod.mk.injEq] at hi2
  obtain ⟨hz0, hz1, hz2⟩ := hi2
  have HI : Hid (Tryd.prog.info? 3 = some i0 ∧ i0.zero = some (.int .i64 0) ∧ i0.size = 1 ∧ i0.bytes = 8) := ⟨hi, hz0, hz1, hz2⟩
  have HOwn : Hid (((w.alloc (.cells t.cells 25)).alloc (.cells #[] 3)).ownsRow (w.heap.size + 1) 3 1 (.slice (some ⟨w.heap.size + 1, 0, none⟩) 0 0) 0 []) := ⟨rfl, .inr ⟨w.heap.size + 1, 0, #[], rfl, Nat.le_refl _, (by have h9 := @Array.getElem?_push_size _ (w.heap.push (.cells t.cells 25)) (.cells #[] 3); rw [Array.size_push] at h9; exact h9), by simp, by unfold maxLen; omega, rfl, rfl⟩⟩
  have HQ0 : Hid (Ls3 w ((w.alloc (.cells t.cells 25)).alloc (.cells #[] 3)) t (some ⟨w.heap.size + 1, 0, none⟩) 0 g) := ⟨(Tb.tabAt_new w t 25).below (B := w.heap.size + 1) (w' := (w.alloc (.cells t.cells 25)).alloc (.cells #[] 3)) ((Below.refl _ _).alloc (by simp) _) (by omega), by go_grown, fun k hk => absurd hk (by omega)⟩
  clear h hcap hG hg h60 hi hz0 hz1 hz2
  generalize ckB t xs 0 g = bc at *
  unfold Tab.val
  go_enter Tryd.func3, Tryd.ntmps3
  go_upto_region 4 with (first
    | (at_builtin; refine wpList_append_own_none rfl _ _ 26 rfl (w.heap.size + 1) 3 i0 1 Tryd.underlying26 HI.out.1 (.slice (some ⟨w.heap.size + 1, 0, none⟩) 0 0) 0 [] rfl HOwn.out rfl ?_))
  clear HOwn HI
  generalize (w.alloc (.cells t.cells 25)).alloc (.cells #[] 3) = WM at *
  have HQ : Hid (Ls3 w WM t (some ⟨w.heap.size + 1, 0, none⟩) 0 g) := HQ0.out
  have HCk : Hid (∀ W, Below w.heap.size w W → (∀ k, k < 0 → ∃ b : Nat, (some ⟨w.heap.size + 1, 0, none⟩ : Option Addr) = some ⟨b, 0, none⟩ ∧ b < W.heap.size ∧ W.cell? ⟨b, k, none⟩ = some (.int .i64 (g k))) → _) := fun W hb hc => HCk.out W hb (some ⟨w.heap.size + 1, 0, none⟩) 0 hc
  have HSm : Hid (∀ W, Below w.heap.size w W → (∀ k, k < 0 → ∃ b : Nat, (some ⟨w.heap.size + 1, 0, none⟩ : Option Addr) = some ⟨b, 0, none⟩ ∧ b < W.heap.size ∧ W.cell? ⟨b, k, none⟩ = some (.int .i64 (g k))) → _) := fun W hb hc => HSm.out W hb (some ⟨w.heap.size + 1, 0, none⟩) 0 hc
  clear HQ0
  refine wp_region_held_drew (S := fun Z => TabAt Z w.heap.size t) (by kernel_rfl) (HQ.out.1.below (drew_up _) HQ.out.1.lt) (fun hHeld => ?_)
  refine wpAnyH_take (i := 0) (v := .slice ao xs.length cap) rfl (by kernel_rfl) (by kernel_rfl) (by kernel_rfl) (fun _ _ _ h => h) (Or.inl ⟨by rfl, fun w' hSw => by (go_simp)⟩) hHeld ?_
  simp only [Act.put, List.setIfInBounds_toArray, List.set_cons_zero, List.set_cons_succ, List.getElem_cons_zero, List.getElem_toArray]
  refine wpAnyH_take (i := 1) (v := .agg #[.int .i64 (t.u 0), .int .i64 (t.u 1), .int .i64 (t.u 2), .int .i64 (t.u 3), .int .i64 (t.l 0), .int .i64 (t.l 1), .int .i64 (t.l 2), .int .i64 (t.l 3), .int .i64 (t.b 0), .int .i64 (t.b 1), .int .i64 (t.b 2), .int .i64 (t.b 3), .int .i64 t.d]) rfl (by kernel_rfl) (by kernel_rfl) (by kernel_rfl) (fun _ _ _ h => h) (Or.inl ⟨by rfl, fun w' hSw => by (have k2 := hSw; have qu0 := k2.cu 0 (by decide); have qu1 := k2.cu 1 (by decide); have qu2 := k2.cu 2 (by decide); have qu3 := k2.cu 3 (by decide); have ql0 := k2.cl 0 (by decide); have ql1 := k2.cl 1 (by decide); have ql2 := k2.cl 2 (by decide); have ql3 := k2.cl 3 (by decide); have qb0 := k2.cb 0 (by decide); have qb1 := k2.cb 1 (by decide); have qb2 := k2.cb 2 (by decide); have qb3 := k2.cb 3 (by decide); have qd := k2.cd; have qz := k2.lt; clear k2; go_simp)⟩) hHeld ?_
  simp only [Act.put, List.setIfInBounds_toArray, List.set_cons_zero, List.set_cons_succ, List.getElem_cons_zero, List.getElem_cons_succ, List.getElem_toArray]
  refine wpAnyH_take (i := 2) (v := .slice (some ⟨w.heap.size + 1, 0, none⟩) 0 0) rfl (by kernel_rfl) (by kernel_rfl) (by kernel_rfl) (fun _ _ _ h => h) (Or.inl ⟨by rfl, fun w' hSw => by (go_simp)⟩) hHeld ?_
  simp only [Act.put, List.setIfInBounds_toArray, List.set_cons_zero, List.set_cons_succ, List.getElem_cons_zero, List.getElem_cons_succ, List.getElem_toArray]
  refine wpAnyH_take (i := 4) (v := .slice ao xs.length cap) rfl (by kernel_rfl) (by kernel_rfl) (by kernel_rfl) (fun _ _ _ h => h) (Or.inl ⟨by rfl, fun w' hSw => by (go_simp)⟩) hHeld ?_
  simp only [Act.put, List.setIfInBounds_toArray, List.set_cons_zero, List.set_cons_succ, List.getElem_cons_zero, List.getElem_cons_succ, List.getElem_toArray]
  refine wpAnyH_take (i := 5) (v := .agg #[.int .i64 (t.u 0), .int .i64 (t.u 1), .int .i64 (t.u 2), .int .i64 (t.u 3), .int .i64 (t.l 0), .int .i64 (t.l 1), .int .i64 (t.l 2), .int .i64 (t.l 3), .int .i64 (t.b 0), .int .i64 (t.b 1), .int .i64 (t.b 2), .int .i64 (t.b 3), .int .i64 t.d]) rfl (by kernel_rfl) (by kernel_rfl) (by kernel_rfl) (fun _ _ _ h => h) (Or.inl ⟨by rfl, fun w' hSw => by (have k2 := hSw; have qu0 := k2.cu 0 (by decide); have qu1 := k2.cu 1 (by decide); have qu2 := k2.cu 2 (by decide); have qu3 := k2.cu 3 (by decide); have ql0 := k2.cl 0 (by decide); have ql1 := k2.cl 1 (by decide); have ql2 := k2.cl 2 (by decide); have ql3 := k2.cl 3 (by decide); have qb0 := k2.cb 0 (by decide); have qb1 := k2.cb 1 (by decide); have qb2 := k2.cb 2 (by decide); have qb3 := k2.cb 3 (by decide); have qd := k2.cd; have qz := k2.lt; clear k2; go_simp)⟩) hHeld ?_
  simp only [Act.put, List.setIfInBounds_toArray, List.set_cons_zero, List.set_cons_succ, List.getElem_cons_zero, List.getElem_cons_succ, List.getElem_toArray]
  refine wpAnyH_take (i := 6) (v := .slice none 0 0) rfl (by kernel_rfl) (by kernel_rfl) (by kernel_rfl) (fun _ _ _ h => h) (Or.inl ⟨by rfl, fun w' hSw => by (go_simp)⟩) hHeld ?_
  simp only [Act.put, List.setIfInBounds_toArray, List.set_cons_zero, List.set_cons_succ, List.getElem_cons_zero, List.getElem_cons_succ, List.getElem_toArray]
  have HQd : Hid (Ls3 w WM.drew t (some ⟨w.heap.size + 1, 0, none⟩) 0 g) := HQ.out.next (drew_up _)
  refine wpAnyH_ready (rs := [3]) (by kernel_rfl) (by simp) ?_
  refine AllReadyH.cons rfl (fun K hK => ?_) AllReadyH.nil
  go_simp
  refine Calls.mono (HCk.out _ HQd.out.2.1 HQd.out.2.2) ?_
  rintro e w3 ⟨rfl, b3⟩
  have HQ3 : Hid (Ls3 w w3 t (some ⟨w.heap.size + 1, 0, none⟩) 0 g) := HQd.out.next b3
  clear b3 HCk
  refine hK.out _ _ HQ3.out.1 (fun hHeld => ?_)
  clear hK K
  refine wpAnyH_ready (rs := [7]) (by kernel_rfl) (by simp) ?_
  refine AllReadyH.cons rfl (fun K hK => ?_) AllReadyH.nil
  go_simp
  refine Calls.mono (HRc.out _ HQ3.out.2.1) ?_
  rintro e w4 ⟨rfl, b7⟩
  have HQ7 : Hid (Ls3 w w4 t (some ⟨w.heap.size + 1, 0, none⟩) 0 g) := HQ3.out.next b7
  clear b7 HRc
  refine hK.out _ _ HQ7.out.1 (fun hHeld => ?_)
  clear hK K
  refine wpAnyH_take (i := 8) (v := .bool true) rfl (by kernel_rfl) (by kernel_rfl) (by kernel_rfl) (fun _ _ _ h => h) (Or.inl ⟨by rfl, fun w' hSw => by (go_simp)⟩) hHeld ?_
  simp only [Act.put, List.setIfInBounds_toArray, List.set_cons_zero, List.set_cons_succ, List.getElem_cons_zero, List.getElem_cons_succ, List.getElem_toArray]
  refine wpAnyH_take (i := 9) (v := .bool true) rfl (by kernel_rfl) (by kernel_rfl) (by kernel_rfl) (fun _ _ _ h => h) (Or.inl ⟨by rfl, fun w' hSw => by (go_simp)⟩) hHeld ?_
  simp only [Act.put, List.setIfInBounds_toArray, List.set_cons_zero, List.set_cons_succ, List.getElem_cons_zero, List.getElem_cons_succ, List.getElem_toArray]
  refine wpAnyH_take (i := 10) (v := .slice (some ⟨w.heap.size + 1, 0, none⟩) 0 0) rfl (by kernel_rfl) (by kernel_rfl) (by kernel_rfl) (fun _ _ _ h => h) (Or.inl ⟨by rfl, fun w' hSw => by (go_simp)⟩) hHeld ?_
  simp only [Act.put, List.setIfInBounds_toArray, List.set_cons_zero, List.set_cons_succ, List.getElem_cons_zero, List.getElem_cons_succ, List.getElem_toArray]
  refine wpAnyH_take (i := 11) (v := .slice none 0 0) rfl (by kernel_rfl) (by kernel_rfl) (by kernel_rfl) (fun _ _ _ h => h) (Or.inl ⟨by rfl, fun w' hSw => by (go_simp)⟩) hHeld ?_
  simp only [Act.put, List.setIfInBounds_toArray, List.set_cons_zero, List.set_cons_succ, List.getElem_cons_zero, List.getElem_cons_succ, List.getElem_toArray]
  refine wpAnyH_ready (rs := [12]) (by kernel_rfl) (by simp) ?_
  refine AllReadyH.cons rfl (fun K hK => ?_) AllReadyH.nil
  go_simp
  refine Calls.mono (HSm.out _ HQ7.out.2.1 HQ7.out.2.2) ?_
  rintro e w5 ⟨rfl, b12⟩
  have HQ12 : Hid (Ls3 w w5 t (some ⟨w.heap.size + 1, 0, none⟩) 0 g) := HQ7.out.next b12
  clear b12 HSm
  refine hK.out _ _ HQ12.out.1 (fun hHeld => ?_)
  clear hK K
  refine wpAnyH_take (i := 13) (v := .bool true) rfl (by kernel_rfl) (by kernel_rfl) (by kernel_rfl) (fun _ _ _ h => h) (Or.inl ⟨by rfl, fun w' hSw => by (go_simp)⟩) hHeld ?_
  simp only [Act.put, List.setIfInBounds_toArray, List.set_cons_zero, List.set_cons_succ, List.getElem_cons_zero, List.getElem_cons_succ, List.getElem_toArray]
  refine wpAnyH_take (i := 14) (v := .bool true) rfl (by kernel_rfl) (by kernel_rfl) (by kernel_rfl) (fun _ _ _ h => h) (Or.inl ⟨by rfl, fun w' hSw => by (go_simp)⟩) hHeld ?_
  simp only [Act.put, List.setIfInBounds_toArray, List.set_cons_zero, List.set_cons_succ, List.getElem_cons_zero, List.getElem_cons_succ, List.getElem_toArray]
  refine wpAnyH_ready (rs := [15]) (by kernel_rfl) (by simp) ?_
  refine AllReadyH.cons rfl (fun K hK => ?_) AllReadyH.nil
  go_simp
  refine Calls.mono (HW.out _ HQ12.out.2.1) ?_
  rintro e w6 ⟨rfl, b15⟩
  have HQ15 : Hid (Ls3 w w6 t (some ⟨w.heap.size + 1, 0, none⟩) 0 g) := HQ12.out.next b15
  clear b15 HW
  refine hK.out _ _ HQ15.out.1 (fun hHeld => ?_)
  clear hK K
  refine wpAnyH_take (i := 16) (v := .bool true) rfl (by kernel_rfl) (by kernel_rfl) (by kernel_rfl) (fun _ _ _ h => h) (Or.inl ⟨by rfl, fun w' hSw => by (go_simp)⟩) hHeld ?_
  simp only [Act.put, List.setIfInBounds_toArray, List.set_cons_zero, List.set_cons_succ, List.getElem_cons_zero, List.getElem_cons_succ, List.getElem_toArray]
  refine wpAnyH_take (i := 17) (v := .bool true) rfl (by kernel_rfl) (by kernel_rfl) (by kernel_rfl) (fun _ _ _ h => h) (Or.inl ⟨by rfl, fun w' hSw => by (go_simp)⟩) hHeld ?_
  simp only [Act.put, List.setIfInBounds_toArray, List.set_cons_zero, List.set_cons_succ, List.getElem_cons_zero, List.getElem_cons_succ, List.getElem_toArray]
  refine wpAnyH_done (by kernel_rfl) ?_ _
  clear hHeld
  go_wp2_with fail
  go_ret
  exact ⟨rfl, HQ15.out.2.1⟩

theorem law_checks (la : Option Addr) (lc n : Nat) (g : Nat → Int) (ao : Option Addr) (cap : Nat) (xs : List O) (t : Tab) (w : World) (h : OpsAt w ao xs) (hcap : xs.length ≤ cap) (hG : Bnds w) (hn : n ≤ 17592186044400)
    (hl : (la = none ∧ n = 0 ∧ lc = 0) ∨ ∃ x, la = some x ∧ Nl w (some x) n g ∧ (∀ j u, (ncells n g)[j]? = some u → w.cell? (x.add j) = some u) ∧ (n = 0 ∨ x.block < w.heap.size)) :
    Calls Tryd.prog 3 #[.slice ao xs.length cap, t.val, .slice la n lc] w fun e w' => e = .returned (.bool true) ∧ Below w.heap.size w w' := by
  by_cases h1 : 60 < xs.length
  · have HW : Hid (∀ W, Below w.heap.size w W → Calls Tryd.prog 7 #[] W fun e w' => e = .returned (.bool true) ∧ Below W.heap.size W w') := fun W hb => wakes_any W (hG.below hb hG.big)
    have i1 : (60 : Int) < (xs.length : Int) := by omega
    have hl := h.len
    have hl' : (xs.length : Int) ≤ 8796093022208 := by omega
    clear h hG h1 hl hcap
    unfold Tab.val
    go_enter Tryd.func3, Tryd.ntmps3
    go_wp2_with (first | (go_at_call 7; refine Calls.mono (HW.out _ (by go_grown)) ?_; rintro e w3 ⟨rfl, hb⟩; have HB3 : Hid (Below w.heap.size w w3) := Below.trans (by go_grown) (hb.mono (by simp)); clear hb HW))
    go_ret
    exact ⟨rfl, HB3.out⟩
  · rcases hl with ⟨rfl, rfl, rfl⟩ | ⟨x, rfl, h2, h3, h4⟩
    · exact checks_none cap ao xs t g w h hcap hG ⟨fun h => absurd h (by omega), fun k h => absurd h (by omega)⟩ (by omega)
    · exact checks_some x cap n lc ao xs t g w h hcap hG h2 hn (by omega) h3 h4
theorem cell_spot57 {w : World} {a : Addr} {v : Value} (h : w.cell? a = some v) : a = ⟨a.block, a.off, none⟩ := by
  obtain ⟨b, f, s⟩ := a
  cases s with
  | none => rfl
  | some s =>
    unfold World.cell? at h
    split at h
    · simp at h
    · cases h
theorem nums_small {H : Type} {enc : TypeId × Value → H} {W : World} {held : Bool} {ao : Option Addr} {n cap : Nat} {d : DataW H} {p : List MemPlace} (h : DataW.Trod enc Tryd.prog W 0 (fun _ => true) held 26 (.slice ao n cap) d p) (hw : ∀ n, n ∈ d.weights Tryd.prog 26 → n ≤ reachBytes) : n ≤ 17592186044400 := by
  have b49 : Tryd.prog.bytesOf 3 = 8 := by kernel_rfl
  obtain ⟨fuel, hf⟩ := h
  have hf' : DataW.trod enc Tryd.prog W 0 (fun _ => true) held fuel 26 [.slice ao n cap] = some (d, p) := hf
  rcases Deep.open_slice Tryd.underlying26 hf' with ⟨e, -⟩ | ⟨a, len, cap2, m, q, D, Pl, e, -, hlc, -, hm, e2, -⟩
  · injection e with e _
    injection e with _ e _
    omega
  · have hmc : m = cap2 := by simpa using hm
    have hcap : m * 8 ≤ reachBytes := by
      refine hw _ ?_
      have e3 : d = _ := congrArg Prod.fst e2
      rw [e3]
      unfold DataW.weights
      simp only [Tryd.underlying26, b49]
      refine List.mem_cons.2 (.inl ?_)
      simp; omega
    rw [reach_eq] at hcap
    injection e with e _
    injection e with _ e _
    omega
theorem open_nums {H : Type} {enc : TypeId × Value → H} {W : World} {r : Reach} {b0 : Nat} {held : Bool} {v : Value} {d : DataW H} {p : List MemPlace} (hv : Value.okWide Tryd.prog W r b0 26 v) (h : DataW.Trod enc Tryd.prog W 0 (fun _ => true) held 26 v d p) (hw : ∀ n, n ∈ d.weights Tryd.prog 26 → n ≤ reachBytes) :
    ∃ (la : Option Addr) (lc n : Nat) (g : Nat → Int), v = .slice la n lc ∧ n ≤ 17592186044400 ∧ ((la = none ∧ n = 0 ∧ lc = 0) ∨ ∃ x, la = some x ∧ Nl W (some x) n g ∧ (∀ j u, (ncells n g)[j]? = some u → W.cell? (x.add j) = some u) ∧ (n = 0 ∨ x.block < W.heap.size)) := by
  obtain ⟨a0, len0, cap0, rfl⟩ := okWide_slice Tryd.underlying26 hv
  have hsm := nums_small h hw
  obtain ⟨fuel, hf⟩ := h
  have hf' : DataW.trod enc Tryd.prog W 0 (fun _ => true) held fuel 26 [.slice a0 len0 cap0] = some (d, p) := hf
  rcases open_ints (P := Tryd.prog) Tryd.underlying26 Tryd.underlying3 (by kernel_rfl) hf' with ⟨e, -⟩ | ⟨a, len, cap, zs, e, -, hl, hc, hz, -, hcell, hwf⟩
  · refine ⟨none, 0, 0, fun _ => 0, by simpa using e, by omega, .inl ⟨rfl, rfl, rfl⟩⟩
  · have hz : zs.length = cap := by simpa using hz
    simp only [List.cons.injEq, Value.slice.injEq, and_true] at e
    obtain ⟨rfl, rfl, rfl⟩ := e
    refine ⟨some a, cap0, len0, fun k => zs.getD k 0, rfl, hsm, .inr ⟨a, rfl, ⟨fun h0 => ?_, fun k hk => ?_⟩, fun j u hu => ?_, ?_⟩⟩
    · have h1 := hcell 0 (by omega)
      rw [show a.add 0 = a by unfold Addr.add; simp] at h1
      have ha := cell_spot57 h1
      refine ⟨a.block, a.off, by rw [← ha], World.block_lt_of_cell? W a h1, fun i hi => ?_⟩
      have h2 := hcell i (by omega)
      rw [ha, show (⟨a.block, a.off, none⟩ : Addr).add i = ⟨a.block, a.off + i, none⟩ by simp [Addr.add]] at h2
      exact h2
    · have hm : zs.getD k 0 ∈ zs := by
        have hk' : k < zs.length := by omega
        rw [List.getD_eq_getElem?_getD, List.getElem?_eq_getElem hk']; exact List.getElem_mem hk'
      exact wf64 (hwf _ hm)
    · unfold ncells at hu
      rw [List.getElem?_map] at hu
      obtain ⟨k, hk, rfl⟩ := Option.map_eq_some_iff.1 hu
      obtain ⟨hj, rfl⟩ := List.getElem?_eq_some_iff.1 hk
      simp only [List.length_range] at hj
      simp only [List.getElem_range]
      exact hcell j (by omega)
    · by_cases h0 : len0 = 0
      · exact .inl h0
      · exact .inr (by have h1 := hcell 0 (by omega); rw [show a.add 0 = a by unfold Addr.add; simp] at h1; exact World.block_lt_of_cell? W a h1)
end Go.Proofs.YtnckkhamkkaljaaDoor.Ls

namespace Go.Proofs.YtnckkhamkkaljaaDoor.Lc
open Go.ChangeShapes Go.WideShapes Go.ChangeAt Go.RowKit
open _root_.Go.Proofs.YtnckkhamkkaljaaDoor.Op

set_option maxRecDepth 100000 in
theorem lchecks_wit (os : Os) (H : Type) (enc : TypeId × Value → H) : ∃ (w : World) (tape : Tape) (i : Input), w.os = os ∧ (w.forCall tape i).Shaped Tryd.prog ∧ i.vars = [] ∧ Input.okWide Tryd.prog (w.forCall tape i) .any w.heap.size 3 i ∧
      ((Rows.listChecksSpec.pre enc Tryd.prog Tryd.f3 [] false (w.forCall tape i).memory i.args ∧ laidMetH Tryd.prog Rows.listChecksRow.laid (w.forCall tape i).memory) ∧ sizedMet enc Tryd.prog Tryd.f3 (OpenSpec.ofChange Rows.listChecksSpec) false (w.forCall tape i).memory i.args) ∧ Assume.holds {} Tryd.prog (lone (Frame.enter Tryd.prog 3 i.args .normal) [] (w.forCall tape i)) :=
  ChangeSpec.witness_shaped (enc := enc) (C := Tryd.checked) (os := os) (X := fun w _ => laidMetH Tryd.prog Rows.listChecksRow.laid w) false ((World.holding Tryd.prog os ⟨#[], #[], []⟩).layVars Tryd.prog laid4) #[.slice none 0 0, .agg #[.int .i64 0, .int .i64 0, .int .i64 0, .int .i64 0, .int .i64 0, .int .i64 0, .int .i64 0, .int .i64 0, .int .i64 0, .int .i64 0, .int .i64 0, .int .i64 0, .int .i64 0], .slice none 0 0] 8 (wit_os4 os)
    (World.shaped_of_ZipB (by kernel_rfl) (by kernel_rfl)) (by kernel_rfl) (by kernel_rfl) (by kernel_rfl) (wit_met4 os _)

set_option maxRecDepth 100000 in
theorem lchecks_lifted (os : Os) (started : os.Started) (H : Type) (enc : TypeId × Value → H) :
    ReturnsInHanded {} Tryd.checked os 3 .any (fun w args => (Rows.listChecksSpec.pre enc Tryd.prog Tryd.f3 [] false w args ∧ laidMetH Tryd.prog Rows.listChecksRow.laid w) ∧ sizedMet enc Tryd.prog Tryd.f3 (OpenSpec.ofChange Rows.listChecksSpec) false w args)
      (Rows.listChecksSpec.post enc Tryd.prog Tryd.f3 false true false false) := by
  refine wrap started (by kernel_rfl) Tryd.func3 (lchecks_wit os H enc) ?_
  intro W base args ds gs before hval0 hW hsz hL hsh
  have hval : ∀ (j : Nat) t v, Tryd.f3.params[j]? = some t → args[j]? = some v → Value.okWide Tryd.prog W .any base t v := hval0
  have hW' := hW
  obtain ⟨p, q, hA0, hV, rfl, _, _⟩ := hW
  have hA : DataW.TrodAll enc Tryd.prog W 0 (fun _ => true) true Tryd.f3.params.toList args.toList ds p := hA0
  rw [Tryd.params3] at hA hval hsz
  obtain ⟨v0, v1, v2, d0, d1, d2, p0, p1, p2, rfl, rfl, rfl, h0, h1, h2⟩ := trodAll_three hA
  obtain ⟨rfl, rfl⟩ := trodVars_none hV
  obtain ⟨ao, cap, xs, rfl, hp, hc⟩ := open_ops (hval 0 22 v0 rfl rfl) h0 fun n hn => by
    have := List.all_eq_true.1 hsz n (DataW.weights_mem_each (j := 0) rfl rfl n hn)
    simpa using this
  obtain ⟨⟨t, rfl⟩, rfl⟩ := open_tab (hval 1 25 v1 rfl rfl) h1
  obtain ⟨la, lc, n, g, rfl, hn, hl⟩ := Ls.open_nums (hval 2 26 v2 rfl rfl) h2 fun n hn => by
    have := List.all_eq_true.1 hsz n (DataW.weights_mem_each (j := 2) rfl rfl n hn)
    simpa using this
  simp only [List.append_nil] at hW'
  refine (Ls.law_checks la lc n g ao cap xs t W hp hc (env4 hL hsh) hn hl).mono fun e W' ⟨he, hb⟩ => ?_
  subst he
  refine ⟨_, rfl, _, _, _, [], p0 ++ ([] ++ p2), [], hW', trodAll_mk1 (shut_bool Tryd.underlying4 _), ?_, rfl, hb.frame _, fun h => by cases h⟩
  rw [Tryd.params3]
  exact trodAll_mk3 (Below.trod laidOut (by kernel_rfl) (by rw [tySize]; decide) h0 hb fun x hx => by obtain ⟨fuel, hf⟩ := h0; exact DataW.trod_lt _ _ _ _ hf x hx) (Below.trod laidOut (by kernel_rfl) (by rw [tySize]; decide) h1 hb (fun x hx => by cases hx)) (Below.trod laidOut (by kernel_rfl) (by rw [tySize]; decide) h2 hb fun x hx => by obtain ⟨fuel, hf⟩ := h2; exact DataW.trod_lt _ _ _ _ hf x hx)

theorem lchecks_row : Rows.ListChecksSaid :=
  OpenClaim.holds_of_wide 3 Tryd.f3 rfl rfl rfl rfl rfl rfl rfl ⟨rfl, rfl, rfl, rfl, rfl⟩ rfl rfl rfl rfl rfl (by kernel_rfl) Tryd.func3 (by kernel_rfl)
    (of_decide_eq_true (by kernel_rfl)) (by unfold Func.isWrapper; first | (rw [if_pos (by decide +kernel)]; kernel_rfl) | (rw [if_neg (by decide +kernel)]; exact ⟨rfl, rfl⟩))
    (fun os started H enc _ => lchecks_lifted os started H enc)

theorem lchecks_card : Rows.ListChecksCardSaid :=
  Claim7.holds_tied_plain_at .later [] [.wider, .wider, .wider, .wider] true (true, "c07084858d27ea713fda486f4809b308d69d484b91a84cbd48a355e6ff8934d4") false lchecks_row (fun _ h => by cases h) (by kernel_rfl) (fun _ h => by cases h) listChecks_row_tie rfl ⟨rfl, rfl⟩ (by kernel_rfl) rfl
    (fun f fn hf hfn => by
      obtain rfl : f = 3 := Option.some.inj ((show Tryd.prog.funcNamed "hayloft/hayloftlaw14.ListChecks" = some 3 by kernel_rfl).symm.trans hf) |>.symm
      obtain rfl : fn = Tryd.f3 := (Option.some.inj (Tryd.func3.symm.trans hfn)).symm
      exact ⟨by kernel_rfl, fun j t ht => by
        rw [Tryd.params3] at ht
        have hm : t ∈ [22, 25, 26] := by simpa using Array.mem_of_getElem? ht
        have hall : ([22, 25, 26].all fun u => !Tryd.prog.wantsStandIn u) = true := by kernel_rfl
        exact (show Tryd.prog.wantsStandIn t = false by simpa using List.all_eq_true.1 hall t hm)⟩)
    (by kernel_rfl)
#print axioms lchecks_card
end Go.Proofs.YtnckkhamkkaljaaDoor.Lc
