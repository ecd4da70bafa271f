/- The statement BoundsTell, whole: how often a round can begin, by units, by what goes from round to round, and by both, is what the document answers, whatever the list and the table; the listed variables are tied to the program text. Conditions: none. -/
import Derived.Test.YthdpgimdakmdgaaDoorZj
import Derived.Test.YthdpgimdakmdgaaDoorDf
import Derived.Test.YthdpgimdakmdgaaDoorZl
import Derived.Test.YthdpgimdakmdgaaDoorZm
import Derived.Test.YthdpgimdakmdgaaDoorTk
import Derived.Test.YthdpgimdakmdgaaDoorPm
import Derived.Test.YthdpgimdakmdgaaDoorTie
import Derived.Test.YthdpgimdakmdgaaDoorCards
import Derived.ProofKit
import Derived.HandedShaped
import Derived.Shelf.Vars
import Derived.Lib.LaidU8
import Derived.Lay
import Derived.LaidHandle
import Derived.LaidLaws
import Derived.Stop.Joined
import Derived.RowKitTokens
import Derived.SevenTiedAt
import Derived.Carry
import Derived.ChangeMaps5
import Derived.Deep.Slices
import Derived.Lib.SmallJoins
import Derived.SizedLaws
import Derived.ChangeOld
import Derived.OpenShut
namespace Go.Proofs.YthdpgimdakmdgaaDoor.Bn
open Go.ChangeShapes Go.WideShapes Go.ChangeAt Go.RowKit
open _root_.Go.Proofs.YthdpgimdakmdgaaDoor.Op _root_.Go.Proofs.YthdpgimdakmdgaaDoor.So
open _root_.Go.Proofs.YthdpgimdakmdgaaDoor.Dp (Ed lisE okL cls_all17 lis_all right_any)
open _root_.Go.Proofs.YthdpgimdakmdgaaDoor.Tb (Tab TabAt Bnds ckR)
set_option maxRecDepth 20000

theorem clV_D {o : O} (h : okL o = true) : clV o.op = (clD o.op : Int) ∧ clB o.op = true := by
  simp only [okL, Bool.and_eq_true, decide_eq_true_eq] at h
  obtain ⟨⟨h1, h2⟩, h3⟩ := h
  obtain ⟨n, hn⟩ : ∃ n : Nat, o.op = n := ⟨o.op.toNat, by omega⟩
  unfold clV clB clD
  cases hk : kOf o.op with
  | none => rw [okO_none hk] at h3; cases h3
  | some k =>
    have hk2 := hk
    unfold kOf at hk2
    rw [if_pos (by omega), hn, Int.toNat_natCast] at hk2
    have hc := cls_all17 n (by omega) (by omega) k hk2
    have hcv : k.cls = ((if 15 ≤ n then 2 else if 12 ≤ n then 1 else 0 : Nat) : Int) := by
      rw [hc]
      split
      · rfl
      · split <;> rfl
    have hne : (k.cls == -1) = false := by rw [hcv]; simp
    refine ⟨?_, ?_⟩
    · show (if k.cls == -1 then (0 : Int) else k.cls) = _
      rw [hne, if_neg (by decide), hcv, hn]
      by_cases c1 : 15 ≤ n
      · have c1' : (15 : Int) ≤ (n : Int) := by omega
        rw [if_pos c1, if_pos c1']
      · have c1' : ¬ (15 : Int) ≤ (n : Int) := by omega
        by_cases c2 : 12 ≤ n
        · have c2' : (12 : Int) ≤ (n : Int) := by omega
          rw [if_neg c1, if_neg c1', if_pos c2, if_pos c2']
        · have c2' : ¬ (12 : Int) ≤ (n : Int) := by omega
          rw [if_neg c1, if_neg c1', if_neg c2, if_neg c2']
    · simp [hne]
theorem ctL_pos (xs : List O) (c : Nat) : ∀ k, k ≤ xs.length → (0 < ctL (xs.take k) c ↔ ∃ (j : Nat) (hj : j < xs.length), j < k ∧ clD xs[j].op = c)
  | 0, _ => by
    refine ⟨fun h => ?_, fun ⟨j, hj, h, _⟩ => by omega⟩
    unfold ctL at h
    simp at h
  | k + 1, h => by
    have ih := ctL_pos xs c k (by omega)
    have h0 := ctL_take xs c k (by omega)
    have hk : k < xs.length := by omega
    rw [ctL_next hk]
    unfold up1
    by_cases e : c = clD xs[k].op
    · rw [if_pos e, ← e]
      exact ⟨fun _ => ⟨k, hk, by omega, e.symm⟩, fun _ => by omega⟩
    · rw [if_neg e, ih]
      refine ⟨fun ⟨j, hj, h1, h2⟩ => ⟨j, hj, by omega, h2⟩, fun ⟨j, hj, h1, h2⟩ => ⟨j, hj, ?_, h2⟩⟩
      by_cases e2 : j = k
      · subst e2; exact absurd h2.symm e
      · omega
theorem cts_pos {xs : List O} {j : Nat} (hj : j < xs.length) : 0 < cts xs (clD xs[j].op) := by
  have h3 := clD_lt xs[j].op
  rw [cts_lo xs (by omega)]
  have := (ctL_pos xs (clD xs[j].op) xs.length (Nat.le_refl _)).2 ⟨j, hj, hj, rfl⟩
  rw [List.take_length] at this
  exact this
theorem hu_no3 {t : Tab} {xs : List O} (h : t.u 3 = 0) : huB t (cts xs) 4 = false := huB_le (k := 3) (by omega) (by rw [cts_3]; simp [h])
theorem hu_noj {t : Tab} {xs : List O} {j : Nat} (hj : j < xs.length) (h : t.u (clD xs[j].op) = 0) : huB t (cts xs) 4 = false := huB_le (k := clD xs[j].op) (by have := clD_lt xs[j].op; omega) (by simp [cts_pos hj, h])
theorem huB_of {t : Tab} {f : Nat → Int} : ∀ {n : Nat}, (∀ k, k < n → 0 < f k → ¬ t.u k = 0) → huB t f n = true
  | 0, _ => rfl
  | n + 1, h => by
    unfold huB
    rw [huB_of fun k hk => h k (by omega)]
    have := h n (by omega)
    by_cases c : 0 < f n
    · simp [c, this c]
    · simp [c]
theorem hu_yes {t : Tab} {xs : List O} (h3 : ¬ t.u 3 = 0) (h : ∀ (j : Nat) (hj : j < xs.length), j < xs.length → ¬ t.u (clD xs[j].op) = 0) : huB t (cts xs) 4 = true := huB_of fun k hk hp => by
  by_cases e : k = 3
  · subst e; exact h3
  · rw [cts_lo xs e] at hp
    have := (ctL_pos xs k xs.length (Nat.le_refl _)).1 (by rw [List.take_length]; exact hp)
    obtain ⟨j, hj, -, e2⟩ := this
    rw [← e2]
    exact h j hj hj
set_option maxHeartbeats 8000000 in
theorem refRight_any (ao : Option Addr) (cap : Nat) (xs : List O) (t : Tab) (w : World) (h : OpsAt w ao xs) :
    Calls Tryd.prog 17 #[.slice ao xs.length cap, t.val] w fun e w' => e = .returned (.int .i64 (rgE t xs)) ∧ Below w.heap.size w w' := by
  have HC : Hid (∀ W, Calls Tryd.prog 30 #[t.val] W fun e w' => e = .returned (.int .i64 (ckR t)) ∧ Below W.heap.size W w') := fun W => Tb.refCheck_any t W
  have HL : Hid (∀ W, Below w.heap.size w W → Calls Tryd.prog 31 #[.slice ao xs.length cap, t.val] W fun e w' => e = .returned (.int .i64 (lisE t xs)) ∧ Below W.heap.size W w') := fun W hb => right_any ao cap xs t W (h.below hb)
  have HO : Hid (OpsAt w ao xs) := h
  have hlen := h.len
  clear h
  cases h1 : t.ok
  · have hr : rgE t xs = 20 := by unfold rgE; rw [if_pos h1]
    have hk : ckR t = 20 := by unfold ckR; rw [h1]; rfl
    rw [hr]
    rw [hk] at HC
    clear hr hk h1 HL HO
    unfold Tab.val at *
    go_enter Tryd.func17, Tryd.ntmps17
    go_wp2_with (first
      | (go_at_call 30; refine Calls.mono (HC.out _) ?_; rintro e w1 ⟨rfl, hb⟩; have HT : Hid (Tq w w1 t) := Tq.start w t hb; clear hb HC))
    go_ret
    exact ⟨rfl, HT.out.up⟩
  · have hk : ckR t = 0 := by unfold ckR; rw [h1]; rfl
    rw [hk] at HC
    clear hk
    by_cases h2 : 64 < xs.length
    · have hr : rgE t xs = 3 := by unfold rgE; rw [if_neg (by rw [h1]; decide), if_pos h2]
      have h2' : (64 : Int) < (xs.length : Int) := by omega
      rw [hr]
      clear hr h1 h2 HL HO
      unfold Tab.val at *
      go_enter Tryd.func17, Tryd.ntmps17
      go_wp2_with (first
        | (go_at_call 30; refine Calls.mono (HC.out _) ?_; rintro e w1 ⟨rfl, hb⟩; have HT : Hid (Tq w w1 t) := Tq.start w t hb; clear hb HC))
      go_ret
      exact ⟨rfl, HT.out.up⟩
    · have h2' : ¬ (64 : Int) < (xs.length : Int) := by omega
      cases h3 : xs.all okL
      · have hr : rgE t xs = 30 := by unfold rgE; rw [if_neg (by rw [h1]; decide), if_neg h2, if_pos h3]
        have hl : lisE t xs = 30 := by unfold lisE; rw [if_neg (by rw [h1]; decide), if_neg (by omega), if_neg (by rw [h3]; decide)]
        rw [hr]
        rw [hl] at HL
        clear hr hl h1 h2 h3 HO
        unfold Tab.val at *
        go_enter Tryd.func17, Tryd.ntmps17
        go_wp2_with (first
          | (go_at_call 30; refine Calls.mono (HC.out _) ?_; rintro e w1 ⟨rfl, hb⟩; have HT : Hid (Tq w w1 t) := Tq.start w t hb; clear hb HC; have s1 := HT.out.t; have tu0 := s1.cu 0 (by decide); have tu1 := s1.cu 1 (by decide); have tu2 := s1.cu 2 (by decide); have tu3 := s1.cu 3 (by decide); have tl0 := s1.cl 0 (by decide); have tl1 := s1.cl 1 (by decide); have tl2 := s1.cl 2 (by decide); have tl3 := s1.cl 3 (by decide); have tb0 := s1.cb 0 (by decide); have tb1 := s1.cb 1 (by decide); have tb2 := s1.cb 2 (by decide); have tb3 := s1.cb 3 (by decide); have td := s1.cd; have tz := s1.lt; clear s1)
          | (go_at_call 31; refine Calls.mono (HL.out _ HT.out.up) ?_; rintro e w2 ⟨rfl, hb⟩; have HT2 : Hid (Tq w w2 t) := HT.out.next hb; clear hb HL HT; clear tu0 tu1 tu2 tu3 tl0 tl1 tl2 tl3 tb0 tb1 tb2 tb3 td tz))
        go_ret
        exact ⟨rfl, HT2.out.up⟩
      · have hl : lisE t xs = 0 := by unfold lisE; rw [if_neg (by rw [h1]; decide), if_neg (by omega), if_pos h3]
        have HV : Hid (rgE t xs = if huB t (cts xs) 4 = false then 21 else 0) := by show rgE t xs = _; unfold rgE; rw [if_neg (by rw [h1]; decide), if_neg h2, if_neg (by rw [h3]; decide)]
        have HOk : Hid (∀ o ∈ xs, okL o = true) := (lis_all hl).2.2
        rw [hl] at HL
        clear hl h1 h2 h3
        by_cases h5 : t.u 3 = 0
        · have HRes : Hid (rgE t xs = 21) := by show rgE t xs = 21; rw [HV.out, if_pos (hu_no3 h5)]
          have H5 : Hid (t.u 3 = 0) := h5
          clear HV h5 HO HOk
          generalize rgE t xs = rg at *
          unfold Tab.val at *
          go_enter Tryd.func17, Tryd.ntmps17
          go_upto_region 9 with (first
            | (go_at_call 30; refine Calls.mono (HC.out _) ?_; rintro e w1 ⟨rfl, hb⟩; have HT : Hid (Tq w w1 t) := Tq.start w t hb; clear hb HC; have s1 := HT.out.t; have tu0 := s1.cu 0 (by decide); have tu1 := s1.cu 1 (by decide); have tu2 := s1.cu 2 (by decide); have tu3 := s1.cu 3 (by decide); have tl0 := s1.cl 0 (by decide); have tl1 := s1.cl 1 (by decide); have tl2 := s1.cl 2 (by decide); have tl3 := s1.cl 3 (by decide); have tb0 := s1.cb 0 (by decide); have tb1 := s1.cb 1 (by decide); have tb2 := s1.cb 2 (by decide); have tb3 := s1.cb 3 (by decide); have td := s1.cd; have tz := s1.lt; clear s1)
            | (go_at_call 31; refine Calls.mono (HL.out _ HT.out.up) ?_; rintro e w2 ⟨rfl, hb⟩; have HT2 : Hid (Tq w w2 t) := HT.out.next hb; clear hb HL HT; clear tu0 tu1 tu2 tu3 tl0 tl1 tl2 tl3 tb0 tb1 tb2 tb3 td tz))
          have tz := HT2.out.t.lt
          have tu3 := HT2.out.t.cu 3 (by decide)
          rw [H5.out] at tu3
          go_wp2_with fail
          go_ret
          exact ⟨by rw [HRes.out]; rfl, HT2.out.up⟩
        · have HU3 : Hid (¬ t.u 3 = 0) := h5
          clear h5
          generalize rgE t xs = rg at *
          unfold Tab.val at *
          go_enter Tryd.func17, Tryd.ntmps17
          go_upto_region 9 with (first
            | (go_at_call 30; refine Calls.mono (HC.out _) ?_; rintro e w1 ⟨rfl, hb⟩; have HT : Hid (Tq w w1 t) := Tq.start w t hb; clear hb HC; have s1 := HT.out.t; have tu0 := s1.cu 0 (by decide); have tu1 := s1.cu 1 (by decide); have tu2 := s1.cu 2 (by decide); have tu3 := s1.cu 3 (by decide); have tl0 := s1.cl 0 (by decide); have tl1 := s1.cl 1 (by decide); have tl2 := s1.cl 2 (by decide); have tl3 := s1.cl 3 (by decide); have tb0 := s1.cb 0 (by decide); have tb1 := s1.cb 1 (by decide); have tb2 := s1.cb 2 (by decide); have tb3 := s1.cb 3 (by decide); have td := s1.cd; have tz := s1.lt; clear s1)
            | (go_at_call 31; refine Calls.mono (HL.out _ HT.out.up) ?_; rintro e w2 ⟨rfl, hb⟩; have HT2 : Hid (Tq w w2 t) := HT.out.next hb; clear hb HL HT; clear tu0 tu1 tu2 tu3 tl0 tl1 tl2 tl3 tb0 tb1 tb2 tb3 td tz))
          have tz := HT2.out.t.lt
          have tu3 := HT2.out.t.cu 3 (by decide)
          have h5' : (t.u 3 == 0) = false := by have := HU3.out; simpa using this
          go_wp2_with fail
          clear tz tu3 h5'
          go_loopw [7] (fun v wr => ∃ k : Nat, k ≤ xs.length ∧ v = .int .i64 k ∧ (∀ (j : Nat) (hj : j < xs.length), j < k → ¬ t.u (clD xs[j].op) = 0) ∧ Tq w wr t) (fun v _ => xs.length - (intOf v).toNat)
          case atStart => exact ⟨0, by omega, rfl, fun j hj h => by omega, HT2.out⟩
          case round =>
            rename World => wr
            obtain ⟨k, hk, rfl, hall, hs⟩ := hrel
            have HQ : Hid (Tq w wr t) := hs
            have HA : Hid (∀ (j : Nat) (hj : j < xs.length), j < k → ¬ t.u (clD xs[j].op) = 0) := hall
            clear hs hall HT2
            by_cases hlt : k < xs.length
            · have k0 : (0 : Int) ≤ (k : Int) := by omega
              have k1 : (k : Int) < (xs.length : Int) := by omega
              obtain ⟨b, f, rfl, hz2, hx⟩ := (HO.out.below HQ.out.up).is (by omega)
              obtain ⟨q0, q1, q2, q3, q4⟩ := hx k hlt
              have HCl : Hid (∀ W, Calls Tryd.prog 18 #[.int .i8 xs[k].op] W fun e w' => e = .returned (.tuple #[.int .i64 (clD xs[k].op : Int), .bool true]) ∧ Below W.heap.size W w') := fun W => by
                have := refClass_any xs[k].op W
                rw [(clV_D (HOk.out _ (List.getElem_mem hlt))).1, (clV_D (HOk.out _ (List.getElem_mem hlt))).2] at this
                exact this
              have hc3 := clD_lt xs[k].op
              have HNo : Hid (t.u (clD xs[k].op) = 0 → rg = 21) := fun h => by rw [HV.out, if_pos (hu_noj hlt h)]
              have HYs : Hid (¬ t.u (clD xs[k].op) = 0 → ∀ (j : Nat) (hj : j < xs.length), j < k + 1 → ¬ t.u (clD xs[j].op) = 0) := fun h j hj h1 => by
                by_cases e : j = k
                · subst e; exact h
                · exact HA.out j hj (by omega)
              clear hx
              generalize xs[k] = o at *
              generalize clD o.op = cl at *
              have cl0 : (0 : Int) ≤ (cl : Int) := by omega
              have cl1 : (cl : Int) < 4 := by omega
              by_cases hu : t.u cl = 0
              · have HRes : Hid (rg = 21) := HNo.out hu
                go_wp2_with (first
                  | (go_at_call 18; refine Calls.mono (HCl.out _) ?_; rintro e w3 ⟨rfl, hb⟩; have HQ3 : Hid (Tq w w3 t) := HQ.out.next hb; clear hb HCl HQ q0 q1 q2 q3 q4 hz2; have cu := HQ3.out.t.cu cl (by omega); rw [hu] at cu; have ctz := HQ3.out.t.lt))
                go_ret
                exact ⟨by rw [HRes.out]; rfl, HQ3.out.up⟩
              · have HRel := HYs.out hu
                have HRl : Hid (∀ (j : Nat) (hj : j < xs.length), j < k + 1 → ¬ t.u (clD xs[j].op) = 0) := HRel
                have hu' : (t.u cl == 0) = false := by simpa using hu
                clear HRel
                go_wp2_with (first
                  | (go_at_call 18; refine Calls.mono (HCl.out _) ?_; rintro e w3 ⟨rfl, hb⟩; have HQ3 : Hid (Tq w w3 t) := HQ.out.next hb; clear hb HCl HQ q0 q1 q2 q3 q4 hz2; have cu := HQ3.out.t.cu cl (by omega); have ctz := HQ3.out.t.lt))
                go_roundw
                case rel => exact ⟨k + 1, by omega, by go_num, HRl.out, HQ3.out⟩
                case measure => simp [intOf]; omega
            · obtain rfl : k = xs.length := by omega
              have k1 : ¬ (xs.length : Int) < (xs.length : Int) := by omega
              have HRes : Hid (rg = 0) := by show rg = 0; rw [HV.out, if_neg (by rw [hu_yes HU3.out HA.out]; decide)]
              go_wp2_with fail
              go_ret
              exact ⟨by rw [HRes.out]; rfl, HQ.out.up⟩
end Go.Proofs.YthdpgimdakmdgaaDoor.Bn

namespace Go.Proofs.YthdpgimdakmdgaaDoor.Bn
open Go.ChangeShapes Go.WideShapes Go.ChangeAt Go.RowKit
open _root_.Go.Proofs.YthdpgimdakmdgaaDoor.Op _root_.Go.Proofs.YthdpgimdakmdgaaDoor.So
open _root_.Go.Proofs.YthdpgimdakmdgaaDoor.Dp (Ed lisE okL lis_all)
open _root_.Go.Proofs.YthdpgimdakmdgaaDoor.Tb (Tab TabAt Bnds ckR)
set_option maxRecDepth 20000

/-- The counts so far, Again first. -/
def ctR (xs : List O) (k : Nat) : Nat → Int := fun c => if c = 3 then 1 else ctL (xs.take k) c
theorem ctR_0 (xs : List O) : up1 (fun _ => 0) 3 1 = ctR xs 0 := by
  funext c
  unfold up1 ctR
  split
  · rfl
  · unfold ctL; simp
theorem ctR_next {xs : List O} {k : Nat} (h : k < xs.length) : ctR xs (k + 1) = up1 (ctR xs k) (clD xs[k].op) (ctR xs k (clD xs[k].op) + 1) := by
  have h3 := clD_lt xs[k].op
  funext c
  unfold ctR
  rw [ctL_next h]
  unfold up1
  by_cases e : c = clD xs[k].op
  · rw [if_pos e, if_pos e, if_neg (by omega), if_neg (by omega)]
  · rw [if_neg e, if_neg e]
theorem ctR_all (xs : List O) : ctR xs xs.length = cts xs := by
  funext c
  unfold ctR cts up1
  rw [List.take_length, ctL_3]
  split <;> rfl
theorem ctR_in (xs : List O) {k : Nat} (hk : k ≤ xs.length) (c : Nat) : 0 ≤ ctR xs k c ∧ ctR xs k c ≤ k + 1 := by
  have := ctL_take xs c k hk
  unfold ctR
  split <;> omega
/-- The counts' row, and the table in its box. -/
structure Cr (w W : World) (t : Tab) (b : Nat) (f : Nat → Int) : Prop where
  q : Tq w W t
  c : Iv W b 4 f
  hb : w.heap.size < b
theorem Cr.next {w W W' : World} {t : Tab} {b : Nat} {f : Nat → Int} (h : Cr w W t b f) (g : Below W.heap.size W W') : Cr w W' t b f := ⟨h.q.next g, h.c.up g, h.hb⟩
theorem Cr.set {w W : World} {t : Tab} {b : Nat} {f : Nat → Int} (h : Cr w W t b f) {k : Nat} (hk : k < 4) (v : Int) : Cr w (W.setCell ⟨b, k, none⟩ (.int .i64 v)) t b (up1 f k v) := by
  have hb := h.hb
  exact ⟨⟨h.q.t.below ((Below.refl b W).setCell (Nat.le_refl _) _) hb, h.q.up.setCell (by show w.heap.size ≤ b; omega) _⟩, h.c.set hk v, hb⟩
theorem cr_start {w W : World} {t : Tab} (h : Tq w W t) : Cr w (W.alloc (.cells z4 23)) t W.heap.size fun _ => 0 :=
  ⟨h.next ((Below.refl _ _).alloc (Nat.le_refl _) _), iv_new W 23, h.t.lt⟩
set_option maxHeartbeats 8000000 in
theorem refUnits_any (ao : Option Addr) (cap : Nat) (xs : List O) (t : Tab) (w : World) (h : OpsAt w ao xs) :
    Calls Tryd.prog 7 #[.slice ao xs.length cap, t.val] w fun e w' => e = .returned (.tuple #[.int .i64 (unE t xs), .int .i64 (rgE t xs)]) ∧ Below w.heap.size w w' := by
  have HR : Hid (∀ W, Below w.heap.size w W → Calls Tryd.prog 17 #[.slice ao xs.length cap, t.val] W fun e w' => e = .returned (.int .i64 (rgE t xs)) ∧ Below W.heap.size W w') := fun W hb => refRight_any ao cap xs t W (h.below hb)
  unfold unE
  by_cases he : rgE t xs = 0
  · obtain ⟨h1, h2, h3, h4⟩ := rg_ok he
    have HO : Hid (OpsAt w ao xs) := h
    have HOk : Hid (∀ o ∈ xs, okL o = true) := (lis_all h3).2.2
    have hf : ∀ k, 0 ≤ cts xs k ∧ cts xs k ≤ 100 := fun k => by have := cts_in xs k; omega
    have HI : Hid (∀ k, k < 4 → 0 < cts xs k → (0 ≤ cts xs k * t.b k ∧ cts xs k * t.b k ≤ 400) ∧ 1 ≤ t.u k ∧ t.u k ≤ 8) := fun k hk h0 => by
      have g1 := (tab_in h1).2 k hk
      have g2 := huB_all h4 hk h0
      have g3 := hf k
      have g4 : cts xs k * t.b k ≤ 100 * 4 := Int.mul_le_mul g3.2 g1.2.2.2 (by omega) (by omega)
      exact ⟨⟨Int.mul_nonneg (by omega) (by omega), by omega⟩, by omega, by omega⟩
    have HB : Hid (∀ k, k ≤ 4 → 0 ≤ buI t (cts xs) k ∧ buI t (cts xs) k ≤ 407) := fun k hk => ⟨buI_0 _ _ _, buI_le h1 h4 hf k hk⟩
    rw [if_pos he, he]
    rw [he] at HR
    have hlen : xs.length ≤ 64 := h2
    have hlen' : (xs.length : Int) ≤ 64 := by omega
    clear h he h1 h2 h3 h4 hf
    unfold Tab.val at *
    go_enter Tryd.func7, Tryd.ntmps7
    go_upto_region 5 with (first
      | (go_at_call 17; refine Calls.mono (HR.out _ (by go_grown)) ?_; rintro e w1 ⟨rfl, hb⟩; have HT : Hid (Tq w w1 t) := Tq.start w t hb; clear hb HR))
    have HC0 : Hid (Cr w (w1.alloc (.cells z4 23)) t w1.heap.size fun _ => 0) := cr_start HT.out
    generalize (w1.alloc (.cells z4 23)) = V at *
    generalize w1.heap.size = cb at *
    clear HT
    have cc := HC0.out.c.c 3 (by omega)
    have cf := HC0.out.c.f 3
    have hl := HC0.out.c.lt
    go_upto_region 6 with fail
    have HC1 : Hid (Cr w (V.setCell ⟨cb, 3, none⟩ (.int .i64 1)) t cb (ctR xs 0)) := by show Cr w _ t cb _; rw [← ctR_0]; exact HC0.out.set (by omega) 1
    generalize (V.setCell ⟨cb, 3, none⟩ (.int .i64 1)) = V1 at *
    clear cc cf hl HC0
    go_wp2_with fail
    go_loopw [8] (fun v wr => ∃ k : Nat, k ≤ xs.length ∧ v = .int .i64 k ∧ Cr w wr t cb (ctR xs k)) (fun v _ => xs.length - (intOf v).toNat)
    case atStart => exact ⟨0, by omega, rfl, HC1.out⟩
    case round =>
      rename World => wr
      obtain ⟨k, hk, rfl, hs⟩ := hrel
      have HQ : Hid (Cr w wr t cb (ctR xs k)) := hs
      clear hs HC1
      by_cases hlt : k < xs.length
      · have k0 : (0 : Int) ≤ (k : Int) := by omega
        have k1 : (k : Int) < (xs.length : Int) := by omega
        obtain ⟨b, f, rfl, hz2, hx⟩ := (HO.out.below HQ.out.q.up).is (by omega)
        obtain ⟨q0, q1, q2, q3, q4⟩ := hx k hlt
        have HCl : Hid (∀ W, Calls Tryd.prog 18 #[.int .i8 xs[k].op] W fun e w' => e = .returned (.tuple #[.int .i64 (clD xs[k].op : Int), .bool true]) ∧ Below W.heap.size W w') := fun W => by
          have := refClass_any xs[k].op W
          rw [(clV_D (HOk.out _ (List.getElem_mem hlt))).1, (clV_D (HOk.out _ (List.getElem_mem hlt))).2] at this
          exact this
        have hc3 := clD_lt xs[k].op
        have HNx : Hid (ctR xs (k + 1) = up1 (ctR xs k) (clD xs[k].op) (ctR xs k (clD xs[k].op) + 1)) := ctR_next hlt
        have cin := ctR_in xs hk (clD xs[k].op)
        clear hx
        generalize xs[k] = o at *
        generalize clD o.op = cl at *
        have cl0 : (0 : Int) ≤ (cl : Int) := by omega
        have cl1 : (cl : Int) < 4 := by omega
        generalize ctR xs k = g at *
        obtain ⟨gv, hgv⟩ : ∃ gv, g cl = gv := ⟨_, rfl⟩
        have HGv : Hid (g cl = gv) := hgv
        rw [hgv] at cin HNx
        clear hgv
        go_wp2_with (first
          | (go_at_call 18; refine Calls.mono (HCl.out _) ?_; rintro e w3 ⟨rfl, hb⟩; have HQ3 : Hid (Cr w w3 t cb g) := HQ.out.next hb; clear hb HCl HQ q0 q1 q2 q3 q4 hz2; have cu := HQ3.out.c.c cl (by omega); rw [HGv.out] at cu; have cf := HQ3.out.c.f cl; have ctz := HQ3.out.c.lt))
        go_roundw
        case rel => exact ⟨k + 1, by omega, by go_num, by rw [HNx.out]; exact HQ3.out.set (by omega) _⟩
        case measure => simp [intOf]; omega
      · obtain rfl : k = xs.length := by omega
        have k1 : ¬ (xs.length : Int) < (xs.length : Int) := by omega
        have HQ2 : Hid (Cr w wr t cb (cts xs)) := by have h := HQ.out; rw [ctR_all] at h; exact h
        clear HQ
        obtain ⟨F, hF⟩ : ∃ F, cts xs = F := ⟨_, rfl⟩
        have HFF : Hid (cts xs = F) := hF
        rw [hF] at HI HB HQ2
        clear hF
        go_wp2_with fail
        go_loopw [11, 12] (fun u v wr => ∃ k : Nat, k ≤ 4 ∧ u = .int .i64 (buI t F k) ∧ v = .int .i64 k ∧ Cr w wr t cb F) (fun _ v _ => 4 - (intOf v).toNat)
        case atStart => exact ⟨0, by omega, rfl, rfl, HQ2.out⟩
        case round =>
          rename World => wz
          obtain ⟨k, hk, rfl, rfl, hs⟩ := hrel
          have HQ : Hid (Cr w wz t cb F) := hs
          clear hs HQ2
          by_cases hlt : k < 4
          · have k0 : (0 : Int) ≤ (k : Int) := by omega
            have k2 : (k : Int) < 4 := by omega
            have hbu := HB.out k hk
            have cc := HQ.out.c.c k hlt
            have cl := HQ.out.c.lt
            by_cases h1 : 0 < F k
            · have HNx : Hid (buI t F (k + 1) = max (buI t F k) ((F k * t.b k + t.u k - 1).tdiv (t.u k))) := if_pos h1
              have hin := HI.out k hlt h1
              obtain ⟨⟨p0, p1⟩, u1, u2⟩ := hin
              have hd := tdiv_le p0 u1 u2
              have hu0 : ¬ t.u k = 0 := by omega
              have HT2 : Hid (∀ x : Wd (Below wz.heap.size wz), Cr w x.w t cb F) := fun x => HQ.out.next x.ok
              go_upto_region 16 with fail
              clear cc cl
              have cu : ∀ x : Wd (Below wz.heap.size wz), x.w.cell? ⟨w.heap.size, k, none⟩ = some (.int .i64 (t.u k)) := fun x => (HT2.out x).q.t.cu k hlt
              have cb2 : ∀ x : Wd (Below wz.heap.size wz), x.w.cell? ⟨w.heap.size, 8 + k, none⟩ = some (.int .i64 (t.b k)) := fun x => (HT2.out x).q.t.cb k hlt
              have cF : ∀ x : Wd (Below wz.heap.size wz), x.w.cell? ⟨cb, k, none⟩ = some (.int .i64 (F k)) := fun x => (HT2.out x).c.c k hlt
              haveI inst : Nonempty (Wd (Below wz.heap.size wz)) := ⟨⟨wz, Below.refl _ _⟩⟩
              refine wp_region_in (Below wz.heap.size wz) (by kernel_rfl) (by kernel_rfl) ((Below.refl _ _).drew) ?_
              repeat (first | go_big_quiet_step (fail))
              refine wpQuiet_nil ?_
              rintro _ ⟨x, rfl⟩
              have HQ3 : Hid (Cr w x.w t cb F) := HT2.out x
              go_wp2_with fail
              go_roundw
              case rel => exact ⟨k + 1, by omega, by rw [HNx.out], by go_num, HQ3.out⟩
              case measure => simp [intOf]; omega
            · have HNx : Hid (buI t F (k + 1) = buI t F k) := if_neg h1
              generalize F k = fv at *
              go_wp2_with fail
              go_roundw
              case rel => exact ⟨k + 1, by omega, by rw [HNx.out], by go_num, HQ.out⟩
              case measure => simp [intOf]; omega
          · obtain rfl : k = 4 := by omega
            have k2 : ¬ ((4 : Nat) : Int) < 4 := by omega
            go_wp2_with fail
            go_ret2
            exact ⟨by rw [HFF.out]; rfl, HQ.out.q.up⟩
  · rw [if_neg he]
    have he2 : (rgE t xs != 0) = true := by simpa using he
    clear h
    generalize rgE t xs = er at *
    unfold Tab.val at *
    go_enter Tryd.func7, Tryd.ntmps7
    go_wp2_with (first
      | (go_at_call 17; refine Calls.mono (HR.out _ (by go_grown)) ?_; rintro e w1 ⟨rfl, hb⟩; have HT : Hid (Tq w w1 t) := Tq.start w t hb; clear hb HR))
    go_ret2
    exact ⟨rfl, HT.out.up⟩
end Go.Proofs.YthdpgimdakmdgaaDoor.Bn

namespace Go.Proofs.YthdpgimdakmdgaaDoor.Bn
open Go.ChangeShapes Go.WideShapes Go.ChangeAt Go.RowKit
open _root_.Go.Proofs.YthdpgimdakmdgaaDoor.Op _root_.Go.Proofs.YthdpgimdakmdgaaDoor.So
open _root_.Go.Proofs.YthdpgimdakmdgaaDoor.Dp (Ed lisE okL loopE ofE EdOut erE lis_all Lall ofD roundD ofD_eq roundD_eq refLoop_any)
open _root_.Go.Proofs.YthdpgimdakmdgaaDoor.Tb (Tab TabAt Bnds ckR)
set_option maxRecDepth 20000

theorem loopD {t : Tab} {xs : List O} (hA : Lall xs) : ofD t xs xs.length ++ roundD t xs xs.length = loopE t xs := by
  rw [← ofD_eq t hA, ← roundD_eq t hA]
  rfl
theorem bf_below {n : Nat} {es : List Ed} (hE : EL n es) (hn : n ≤ 41) {q : Int} (h1 : 1 ≤ q) (h2 : q < rndE n es) : bf q es (n + 1) (fun _ => 0) = false := by
  have h5 : inT (stp q es) n = false := (rnd_is (P := fun q => inT (stp q es) n) (srch_of hE hn).top).2.2.2 q h1 h2
  have h6 : rndE n es ≤ 512 := (rnd_is (P := fun q => inT (stp q es) n) (srch_of hE hn).top).2.2.1
  cases e2 : bf q es (n + 1) (fun _ => 0)
  · rfl
  · rw [(inT_iff hE hn (by omega) (by omega)).2 ((bf_iff hE _).1 e2)] at h5
    cases h5
set_option maxHeartbeats 8000000 in
theorem refRounds_any (ao : Option Addr) (cap : Nat) (xs : List O) (t : Tab) (w : World) (h : OpsAt w ao xs) (hY : rgE t xs = 0 → xs.length ≤ 41) :
    Calls Tryd.prog 9 #[.slice ao xs.length cap, t.val] w fun e w' => e = .returned (.tuple #[.int .i64 (roE t xs), .int .i64 (rgE t xs)]) ∧ Below w.heap.size w w' := by
  have HR : Hid (∀ W, Below w.heap.size w W → Calls Tryd.prog 17 #[.slice ao xs.length cap, t.val] W fun e w' => e = .returned (.int .i64 (rgE t xs)) ∧ Below W.heap.size W w') := fun W hb => refRight_any ao cap xs t W (h.below hb)
  unfold roE
  by_cases he : rgE t xs = 0
  · obtain ⟨h1, h2, h3, h4⟩ := rg_ok he
    have h41 := hY he
    have hE := loopE_ok h he
    have hA : Lall xs := fun o ho => ⟨h.ok o ho, (lis_all h3).2.2 o ho⟩
    have HL : Hid (∀ W, Below w.heap.size w W → Calls Tryd.prog 20 #[.slice ao xs.length cap, t.val] W (EdOut W 0 (loopE t xs))) := fun W hb => by
      have := refLoop_any ao cap xs t W (h.below hb) fun _ => by omega
      unfold erE at this
      rw [if_pos h3, h3, loopD hA] at this
      exact this
    obtain ⟨⟨r1, r2⟩, r3, -⟩ := ring_is hE h41
    have HG : Hid (∀ W ea ec (q : Int), Es W ea (loopE t xs) → 1 ≤ q → q ≤ rndE xs.length (loopE t xs) → Calls Tryd.prog 21 #[.slice ea (loopE t xs).length ec, .int .i64 xs.length, .int .i64 q] W fun e w' => e = .returned (.bool (decide (q = rndE xs.length (loopE t xs)))) ∧ Below W.heap.size W w') := fun W ea ec q hs g1 g2 => by
      have := goes_any xs.length (by omega) ea ec _ _ rfl q W hs hE (by omega) (by omega) (loopE_len (by omega))
      by_cases e : q = rndE xs.length (loopE t xs)
      · rw [e, r3] at this
        rw [e]
        simpa using this
      · rw [bf_below hE h41 g1 (by omega)] at this
        simpa [e] using this
    rw [if_pos he, he]
    rw [he] at HR
    have hlen := h.len
    clear h he h1 h2 h3 h4 hE hA r3 hY h41
    unfold EdOut at HL
    generalize hrr : rndE xs.length (loopE t xs) = r at *
    have HRR : Hid (rndE xs.length (loopE t xs) = r) := hrr
    clear hrr
    generalize loopE t xs = es at *
    unfold Tab.val at *
    go_enter Tryd.func9, Tryd.ntmps9
    go_wp2_with (first
      | (go_at_call 17; refine Calls.mono (HR.out _ (by go_grown)) ?_; rintro e w1 ⟨rfl, hb⟩; have HT : Hid (Tq w w1 t) := Tq.start w t hb; clear hb HR; have s1 := HT.out.t; have tu0 := s1.cu 0 (by decide); have tu1 := s1.cu 1 (by decide); have tu2 := s1.cu 2 (by decide); have tu3 := s1.cu 3 (by decide); have tl0 := s1.cl 0 (by decide); have tl1 := s1.cl 1 (by decide); have tl2 := s1.cl 2 (by decide); have tl3 := s1.cl 3 (by decide); have tb0 := s1.cb 0 (by decide); have tb1 := s1.cb 1 (by decide); have tb2 := s1.cb 2 (by decide); have tb3 := s1.cb 3 (by decide); have td := s1.cd; have tz := s1.lt; clear s1)
      | (go_at_call 20; refine Calls.mono (HL.out _ HT.out.up) ?_; rintro e w2 ⟨ea, ec, rfl, ho, hb⟩; have HT2 : Hid (Tq w w2 t ∧ Es w2 ea es) := ⟨HT.out.next hb, es_of ho⟩; clear hb ho HL HT; clear tu0 tu1 tu2 tu3 tl0 tl1 tl2 tl3 tb0 tb1 tb2 tb3 td tz))
    go_loopw [9] (fun v wr => ∃ q : Int, 1 ≤ q ∧ q ≤ r ∧ v = .int .i64 q ∧ Tq w wr t ∧ Es wr ea es) (fun v _ => (r - intOf v).toNat)
    case atStart => exact ⟨1, by omega, r1, rfl, HT2.out⟩
    case round =>
      rename World => wr
      obtain ⟨q, q1, q2, rfl, hs⟩ := hrel
      have HQ : Hid (Tq w wr t ∧ Es wr ea es) := hs
      clear hs HT2
      have HGq : Hid (Calls Tryd.prog 21 #[.slice ea es.length ec, .int .i64 xs.length, .int .i64 q] wr fun e w' => e = .returned (.bool (decide (q = r))) ∧ Below wr.heap.size wr w') := HG.out wr ea ec q HQ.out.2 q1 q2
      by_cases hq : q = r
      · subst hq
        have HGr : Hid (Calls Tryd.prog 21 #[.slice ea es.length ec, .int .i64 xs.length, .int .i64 q] wr fun e w' => e = .returned (.bool true) ∧ Below wr.heap.size wr w') := by have h := HGq.out; rw [show decide (q = q) = true by simp] at h; exact h
        clear HGq
        go_wp2_with (first
          | (go_at_call 21; refine Calls.mono HGr.out ?_; rintro e w3 ⟨rfl, hb⟩; have HQ3 : Hid (Tq w w3 t) := HQ.out.1.next hb; clear hb HGr HQ))
        go_ret2
        exact ⟨rfl, HQ3.out.up⟩
      · have HGr : Hid (Calls Tryd.prog 21 #[.slice ea es.length ec, .int .i64 xs.length, .int .i64 q] wr fun e w' => e = .returned (.bool false) ∧ Below wr.heap.size wr w') := by have h := HGq.out; rw [show decide (q = r) = false by simpa using hq] at h; exact h
        have hq2 : q < r := by omega
        clear HGq hq
        go_wp2_with (first
          | (go_at_call 21; refine Calls.mono HGr.out ?_; rintro e w3 ⟨rfl, hb⟩; have HQ3 : Hid (Tq w w3 t ∧ Es w3 ea es) := ⟨HQ.out.1.next hb, HQ.out.2.up hb⟩; clear hb HGr HQ))
        go_roundw
        case rel => exact ⟨q + 1, by omega, by omega, by first | rfl | go_num, HQ3.out⟩
        case measure => simp [intOf]; omega
  · rw [if_neg he]
    have he2 : (rgE t xs != 0) = true := by simpa using he
    clear h hY
    generalize rgE t xs = er at *
    unfold Tab.val at *
    go_enter Tryd.func9, Tryd.ntmps9
    go_wp2_with (first
      | (go_at_call 17; refine Calls.mono (HR.out _ (by go_grown)) ?_; rintro e w1 ⟨rfl, hb⟩; have HT : Hid (Tq w w1 t) := Tq.start w t hb; clear hb HR))
    go_ret2
    exact ⟨rfl, HT.out.up⟩
set_option maxHeartbeats 8000000 in
theorem refLeast_any (ao : Option Addr) (cap : Nat) (xs : List O) (t : Tab) (w : World) (h : OpsAt w ao xs) (hY : rgE t xs = 0 → xs.length ≤ 41) :
    Calls Tryd.prog 11 #[.slice ao xs.length cap, t.val] w fun e w' => e = .returned (.tuple #[.int .i64 (leE t xs), .int .i64 (rgE t xs)]) ∧ Below w.heap.size w w' := by
  have HU : Hid (∀ W, Below w.heap.size w W → Calls Tryd.prog 7 #[.slice ao xs.length cap, t.val] W fun e w' => e = .returned (.tuple #[.int .i64 (unE t xs), .int .i64 (rgE t xs)]) ∧ Below W.heap.size W w') := fun W hb => refUnits_any ao cap xs t W (h.below hb)
  have HR : Hid (∀ W, Below w.heap.size w W → Calls Tryd.prog 9 #[.slice ao xs.length cap, t.val] W fun e w' => e = .returned (.tuple #[.int .i64 (roE t xs), .int .i64 (rgE t xs)]) ∧ Below W.heap.size W w') := fun W hb => refRounds_any ao cap xs t W (h.below hb) hY
  by_cases he : rgE t xs = 0
  · obtain ⟨h1, h2, h3, h4⟩ := rg_ok he
    have ht := (tab_in h1).1
    have hu : unE t xs = buI t (cts xs) 4 := if_pos he
    have hr : roE t xs = rndE xs.length (loopE t xs) := if_pos he
    have hl : leE t xs = max (max (buI t (cts xs) 4) (rndE xs.length (loopE t xs))) (1 + t.d) := if_pos he
    rw [hl, he]
    rw [hu, he] at HU
    rw [hr, he] at HR
    clear h hY he h1 h2 h3 h4 hu hr hl
    generalize rndE xs.length (loopE t xs) = ro at *
    generalize buI t (cts xs) 4 = bu at *
    unfold Tab.val at *
    go_enter Tryd.func11, Tryd.ntmps11
    go_upto_region 7 with (first
      | (go_at_call 7; refine Calls.mono (HU.out _ (by go_grown)) ?_; rintro e w1 ⟨rfl, hb⟩; have HT : Hid (Tq w w1 t) := Tq.start w t hb; clear hb HU; have s1 := HT.out.t; have tu0 := s1.cu 0 (by decide); have tu1 := s1.cu 1 (by decide); have tu2 := s1.cu 2 (by decide); have tu3 := s1.cu 3 (by decide); have tl0 := s1.cl 0 (by decide); have tl1 := s1.cl 1 (by decide); have tl2 := s1.cl 2 (by decide); have tl3 := s1.cl 3 (by decide); have tb0 := s1.cb 0 (by decide); have tb1 := s1.cb 1 (by decide); have tb2 := s1.cb 2 (by decide); have tb3 := s1.cb 3 (by decide); have td := s1.cd; have tz := s1.lt; clear s1)
      | (go_at_call 9; refine Calls.mono (HR.out _ HT.out.up) ?_; rintro e w2 ⟨rfl, hb⟩; have HT2 : Hid (Tq w w2 t) := HT.out.next hb; clear hb HR HT; clear tu0 tu1 tu2 tu3 tl0 tl1 tl2 tl3 tb0 tb1 tb2 tb3 td tz))
    have td := HT2.out.t.cd
    have tz := HT2.out.t.lt
    by_cases c1 : bu < ro
    · by_cases c2 : ro < 1 + t.d
      · have HM : Hid (max (max bu ro) (1 + t.d) = 1 + t.d ∧ max bu (max ro (1 + t.d)) = 1 + t.d) := ⟨by omega, by omega⟩
        go_wp2_with fail
        go_ret2
        exact ⟨by first | (rw [HM.out.1]; rfl) | (rw [HM.out.2]; rfl), HT2.out.up⟩
      · have HM : Hid (max (max bu ro) (1 + t.d) = ro ∧ max bu (max ro (1 + t.d)) = ro) := ⟨by omega, by omega⟩
        go_wp2_with fail
        go_ret2
        exact ⟨by first | (rw [HM.out.1]; rfl) | (rw [HM.out.2]; rfl), HT2.out.up⟩
    · by_cases c2 : bu < 1 + t.d
      · have HM : Hid (max (max bu ro) (1 + t.d) = 1 + t.d ∧ max bu (max ro (1 + t.d)) = 1 + t.d) := ⟨by omega, by omega⟩
        go_wp2_with fail
        go_ret2
        exact ⟨by first | (rw [HM.out.1]; rfl) | (rw [HM.out.2]; rfl), HT2.out.up⟩
      · have HM : Hid (max (max bu ro) (1 + t.d) = bu ∧ max bu (max ro (1 + t.d)) = bu) := ⟨by omega, by omega⟩
        go_wp2_with fail
        go_ret2
        exact ⟨by first | (rw [HM.out.1]; rfl) | (rw [HM.out.2]; rfl), HT2.out.up⟩
  · have hu : unE t xs = 0 := if_neg he
    have hl : leE t xs = 0 := if_neg he
    rw [hl]
    rw [hu] at HU
    have he2 : (rgE t xs != 0) = true := by simpa using he
    clear h hY HR hu hl he
    generalize rgE t xs = er at *
    unfold Tab.val at *
    go_enter Tryd.func11, Tryd.ntmps11
    go_wp2_with (first
      | (go_at_call 7; refine Calls.mono (HU.out _ (by go_grown)) ?_; rintro e w1 ⟨rfl, hb⟩; have HT : Hid (Tq w w1 t) := Tq.start w t hb; clear hb HU))
    go_ret2
    exact ⟨rfl, HT.out.up⟩
end Go.Proofs.YthdpgimdakmdgaaDoor.Bn

namespace Go.Proofs.YthdpgimdakmdgaaDoor.Bn
open Go.ChangeShapes Go.WideShapes Go.ChangeAt Go.RowKit
open _root_.Go.Proofs.YthdpgimdakmdgaaDoor.Op _root_.Go.Proofs.YthdpgimdakmdgaaDoor.So
open _root_.Go.Proofs.YthdpgimdakmdgaaDoor.Dp (Ed loopE)
open _root_.Go.Proofs.YthdpgimdakmdgaaDoor.Tb (Tab TabAt Bnds ckR)
set_option maxRecDepth 20000

set_option maxHeartbeats 8000000 in
theorem tell_short (ao : Option Addr) (cap : Nat) (xs : List O) (t : Tab) (w : World) (h : OpsAt w ao xs) (hcap : xs.length ≤ cap) (hG : Bnds w) (hlong : xs.length ≤ 24) :
    Calls Tryd.prog 3 #[.slice ao xs.length cap, t.val] w fun e w' => e = .returned (.bool true) ∧ Below w.heap.size w w' := by
  obtain ⟨ys, hys⟩ : ∃ ys, ys = xs := ⟨_, rfl⟩
  have hyl : ys.length = xs.length := by rw [hys]
  have hO : OpsAt w ao ys := by rw [hys]; exact h
  have hY : rgE t ys = 0 → ys.length ≤ 41 := fun he => by have := (rg_ok he).2.1; omega
  have hD : rgE t ys = 0 → Rdy ys.length (loopE t ys) := fun he => rdy_of (loopE_ok hO he) (hY he)
  have HW : Hid (∀ W, Below w.heap.size w W → Calls Tryd.prog 12 #[] W fun e w' => e = .returned (.bool true) ∧ Below W.heap.size W w') := fun W hb => wakes_any W (hG.below hb hG.big)
  have H6 : Hid (∀ W, Below w.heap.size w W → Calls Tryd.prog 6 #[.slice ao xs.length cap, t.val] W fun e w' => e = .returned (.tuple #[.int .i64 (unE t ys), .int .i64 (rgE t ys)]) ∧ Below W.heap.size W w') := fun W hb => by
    have := units_any ao cap ys t W (hO.below hb) (by omega) (hG.below hb hG.big)
    rw [hyl] at this; exact this
  have H7 : Hid (∀ W, Below w.heap.size w W → Calls Tryd.prog 7 #[.slice ao xs.length cap, t.val] W fun e w' => e = .returned (.tuple #[.int .i64 (unE t ys), .int .i64 (rgE t ys)]) ∧ Below W.heap.size W w') := fun W hb => by
    have := refUnits_any ao cap ys t W (hO.below hb)
    rw [hyl] at this; exact this
  have H8 : Hid (∀ W, Below w.heap.size w W → Calls Tryd.prog 8 #[.slice ao xs.length cap, t.val] W fun e w' => e = .returned (.tuple #[.int .i64 (roE t ys), .int .i64 (rgE t ys)]) ∧ Below W.heap.size W w') := fun W hb => by
    have := rounds_any ao cap ys t W (hO.below hb) (by omega) (hG.below hb hG.big) hD
    rw [hyl] at this; exact this
  have H9 : Hid (∀ W, Below w.heap.size w W → Calls Tryd.prog 9 #[.slice ao xs.length cap, t.val] W fun e w' => e = .returned (.tuple #[.int .i64 (roE t ys), .int .i64 (rgE t ys)]) ∧ Below W.heap.size W w') := fun W hb => by
    have := refRounds_any ao cap ys t W (hO.below hb) hY
    rw [hyl] at this; exact this
  have H10 : Hid (∀ W, Below w.heap.size w W → Calls Tryd.prog 10 #[.slice ao xs.length cap, t.val] W fun e w' => e = .returned (.tuple #[.int .i64 (leE t ys), .int .i64 (rgE t ys)]) ∧ Below W.heap.size W w') := fun W hb => by
    have := least_any ao cap ys t W (hO.below hb) (by omega) (hG.below hb hG.big) hD
    rw [hyl] at this; exact this
  have H11 : Hid (∀ W, Below w.heap.size w W → Calls Tryd.prog 11 #[.slice ao xs.length cap, t.val] W fun e w' => e = .returned (.tuple #[.int .i64 (leE t ys), .int .i64 (rgE t ys)]) ∧ Below W.heap.size W w') := fun W hb => by
    have := refLeast_any ao cap ys t W (hO.below hb) hY
    rw [hyl] at this; exact this
  have hlen := h.len
  have hl1 : ¬ (24 : Int) < (xs.length : Int) := by omega
  have hlen' : (xs.length : Int) ≤ 8796093022208 := by omega
  have hcap' : (xs.length : Int) ≤ (cap : Int) := by omega
  clear h hcap hG hO hY hD hyl hys hlong
  generalize unE t ys = un at *
  generalize roE t ys = ro at *
  generalize leE t ys = le at *
  generalize rgE t ys = er at *
  unfold Tab.val at *
  go_enter Tryd.func3, Tryd.ntmps3
  go_upto_region 3 with fail
  go_upto_region 9 with (first
    | (go_at_call 6; refine Calls.mono (H6.out _ (by go_grown)) ?_; rintro e w1 ⟨rfl, hb⟩; have HT : Hid (Tq w w1 t) := Tq.start w t hb; clear hb H6; have s1 := HT.out.t; have tu0 := s1.cu 0 (by decide); have tu1 := s1.cu 1 (by decide); have tu2 := s1.cu 2 (by decide); have tu3 := s1.cu 3 (by decide); have tl0 := s1.cl 0 (by decide); have tl1 := s1.cl 1 (by decide); have tl2 := s1.cl 2 (by decide); have tl3 := s1.cl 3 (by decide); have tb0 := s1.cb 0 (by decide); have tb1 := s1.cb 1 (by decide); have tb2 := s1.cb 2 (by decide); have tb3 := s1.cb 3 (by decide); have td := s1.cd; have tz := s1.lt; clear s1)
    | (go_at_call 7; refine Calls.mono (H7.out _ HT.out.up) ?_; rintro e w2 ⟨rfl, hb⟩; have HT2 : Hid (Tq w w2 t) := HT.out.next hb; clear hb H7 HT; clear tu0 tu1 tu2 tu3 tl0 tl1 tl2 tl3 tb0 tb1 tb2 tb3 td tz; have s1 := HT2.out.t; have tu0 := s1.cu 0 (by decide); have tu1 := s1.cu 1 (by decide); have tu2 := s1.cu 2 (by decide); have tu3 := s1.cu 3 (by decide); have tl0 := s1.cl 0 (by decide); have tl1 := s1.cl 1 (by decide); have tl2 := s1.cl 2 (by decide); have tl3 := s1.cl 3 (by decide); have tb0 := s1.cb 0 (by decide); have tb1 := s1.cb 1 (by decide); have tb2 := s1.cb 2 (by decide); have tb3 := s1.cb 3 (by decide); have td := s1.cd; have tz := s1.lt; clear s1)
    | (go_at_call 8; refine Calls.mono (H8.out _ HT2.out.up) ?_; rintro e w3 ⟨rfl, hb⟩; have HT3 : Hid (Tq w w3 t) := HT2.out.next hb; clear hb H8 HT2; clear tu0 tu1 tu2 tu3 tl0 tl1 tl2 tl3 tb0 tb1 tb2 tb3 td tz; have s1 := HT3.out.t; have tu0 := s1.cu 0 (by decide); have tu1 := s1.cu 1 (by decide); have tu2 := s1.cu 2 (by decide); have tu3 := s1.cu 3 (by decide); have tl0 := s1.cl 0 (by decide); have tl1 := s1.cl 1 (by decide); have tl2 := s1.cl 2 (by decide); have tl3 := s1.cl 3 (by decide); have tb0 := s1.cb 0 (by decide); have tb1 := s1.cb 1 (by decide); have tb2 := s1.cb 2 (by decide); have tb3 := s1.cb 3 (by decide); have td := s1.cd; have tz := s1.lt; clear s1)
    | (go_at_call 9; refine Calls.mono (H9.out _ HT3.out.up) ?_; rintro e w4 ⟨rfl, hb⟩; have HT4 : Hid (Tq w w4 t) := HT3.out.next hb; clear hb H9 HT3; clear tu0 tu1 tu2 tu3 tl0 tl1 tl2 tl3 tb0 tb1 tb2 tb3 td tz; have s1 := HT4.out.t; have tu0 := s1.cu 0 (by decide); have tu1 := s1.cu 1 (by decide); have tu2 := s1.cu 2 (by decide); have tu3 := s1.cu 3 (by decide); have tl0 := s1.cl 0 (by decide); have tl1 := s1.cl 1 (by decide); have tl2 := s1.cl 2 (by decide); have tl3 := s1.cl 3 (by decide); have tb0 := s1.cb 0 (by decide); have tb1 := s1.cb 1 (by decide); have tb2 := s1.cb 2 (by decide); have tb3 := s1.cb 3 (by decide); have td := s1.cd; have tz := s1.lt; clear s1)
    | (go_at_call 10; refine Calls.mono (H10.out _ HT4.out.up) ?_; rintro e w5 ⟨rfl, hb⟩; have HT5 : Hid (Tq w w5 t) := HT4.out.next hb; clear hb H10 HT4; clear tu0 tu1 tu2 tu3 tl0 tl1 tl2 tl3 tb0 tb1 tb2 tb3 td tz; have s1 := HT5.out.t; have tu0 := s1.cu 0 (by decide); have tu1 := s1.cu 1 (by decide); have tu2 := s1.cu 2 (by decide); have tu3 := s1.cu 3 (by decide); have tl0 := s1.cl 0 (by decide); have tl1 := s1.cl 1 (by decide); have tl2 := s1.cl 2 (by decide); have tl3 := s1.cl 3 (by decide); have tb0 := s1.cb 0 (by decide); have tb1 := s1.cb 1 (by decide); have tb2 := s1.cb 2 (by decide); have tb3 := s1.cb 3 (by decide); have td := s1.cd; have tz := s1.lt; clear s1)
    | (go_at_call 11; refine Calls.mono (H11.out _ HT5.out.up) ?_; rintro e w6 ⟨rfl, hb⟩; have HT6 : Hid (Tq w w6 t) := HT5.out.next hb; clear hb H11 HT5; clear tu0 tu1 tu2 tu3 tl0 tl1 tl2 tl3 tb0 tb1 tb2 tb3 td tz))
  go_wp2_with (first
    | (go_at_call 12; refine Calls.mono (HW.out _ HT6.out.up) ?_; rintro e w7 ⟨rfl, hb⟩; have HT7 : Hid (Tq w w7 t) := HT6.out.next hb; clear hb HW HT6))
  go_ret
  exact ⟨rfl, HT7.out.up⟩
set_option maxHeartbeats 8000000 in
theorem tell_mid (ao : Option Addr) (cap : Nat) (xs : List O) (t : Tab) (w : World) (h : OpsAt w ao xs) (hcap : xs.length ≤ cap) (hG : Bnds w) (hlong : 24 < xs.length ∧ xs.length ≤ 64) :
    Calls Tryd.prog 3 #[.slice ao xs.length cap, t.val] w fun e w' => e = .returned (.bool true) ∧ Below w.heap.size w w' := by
  obtain ⟨ys, hys⟩ : ∃ ys, ys = (xs.take 24) := ⟨_, rfl⟩
  have hyl : ys.length = 24 := by rw [hys]; rw [List.length_take]; omega
  have hO : OpsAt w ao ys := by rw [hys]; exact ops_take h 24
  have hY : rgE t ys = 0 → ys.length ≤ 41 := fun he => by have := (rg_ok he).2.1; omega
  have hD : rgE t ys = 0 → Rdy ys.length (loopE t ys) := fun he => rdy_of (loopE_ok hO he) (hY he)
  have HW : Hid (∀ W, Below w.heap.size w W → Calls Tryd.prog 12 #[] W fun e w' => e = .returned (.bool true) ∧ Below W.heap.size W w') := fun W hb => wakes_any W (hG.below hb hG.big)
  have H6 : Hid (∀ W, Below w.heap.size w W → Calls Tryd.prog 6 #[.slice ao 24 cap, t.val] W fun e w' => e = .returned (.tuple #[.int .i64 (unE t ys), .int .i64 (rgE t ys)]) ∧ Below W.heap.size W w') := fun W hb => by
    have := units_any ao cap ys t W (hO.below hb) (by omega) (hG.below hb hG.big)
    rw [hyl] at this; exact this
  have H7 : Hid (∀ W, Below w.heap.size w W → Calls Tryd.prog 7 #[.slice ao 24 cap, t.val] W fun e w' => e = .returned (.tuple #[.int .i64 (unE t ys), .int .i64 (rgE t ys)]) ∧ Below W.heap.size W w') := fun W hb => by
    have := refUnits_any ao cap ys t W (hO.below hb)
    rw [hyl] at this; exact this
  have H8 : Hid (∀ W, Below w.heap.size w W → Calls Tryd.prog 8 #[.slice ao 24 cap, t.val] W fun e w' => e = .returned (.tuple #[.int .i64 (roE t ys), .int .i64 (rgE t ys)]) ∧ Below W.heap.size W w') := fun W hb => by
    have := rounds_any ao cap ys t W (hO.below hb) (by omega) (hG.below hb hG.big) hD
    rw [hyl] at this; exact this
  have H9 : Hid (∀ W, Below w.heap.size w W → Calls Tryd.prog 9 #[.slice ao 24 cap, t.val] W fun e w' => e = .returned (.tuple #[.int .i64 (roE t ys), .int .i64 (rgE t ys)]) ∧ Below W.heap.size W w') := fun W hb => by
    have := refRounds_any ao cap ys t W (hO.below hb) hY
    rw [hyl] at this; exact this
  have H10 : Hid (∀ W, Below w.heap.size w W → Calls Tryd.prog 10 #[.slice ao 24 cap, t.val] W fun e w' => e = .returned (.tuple #[.int .i64 (leE t ys), .int .i64 (rgE t ys)]) ∧ Below W.heap.size W w') := fun W hb => by
    have := least_any ao cap ys t W (hO.below hb) (by omega) (hG.below hb hG.big) hD
    rw [hyl] at this; exact this
  have H11 : Hid (∀ W, Below w.heap.size w W → Calls Tryd.prog 11 #[.slice ao 24 cap, t.val] W fun e w' => e = .returned (.tuple #[.int .i64 (leE t ys), .int .i64 (rgE t ys)]) ∧ Below W.heap.size W w') := fun W hb => by
    have := refLeast_any ao cap ys t W (hO.below hb) hY
    rw [hyl] at this; exact this
  have hlen := h.len
  have hl1 : (24 : Int) < (xs.length : Int) := by omega
  have hl2 : (xs.length : Int) ≤ 64 := by omega
  have hlen' : (xs.length : Int) ≤ 8796093022208 := by omega
  have hcap' : (xs.length : Int) ≤ (cap : Int) := by omega
  have hc24 : (24 : Int) ≤ (cap : Int) := by omega
  clear h hcap hG hO hY hD hyl hys hlong
  generalize unE t ys = un at *
  generalize roE t ys = ro at *
  generalize leE t ys = le at *
  generalize rgE t ys = er at *
  unfold Tab.val at *
  go_enter Tryd.func3, Tryd.ntmps3
  go_upto_region 3 with fail
  go_upto_region 9 with (first
    | (go_at_call 6; refine Calls.mono (H6.out _ (by go_grown)) ?_; rintro e w1 ⟨rfl, hb⟩; have HT : Hid (Tq w w1 t) := Tq.start w t hb; clear hb H6; have s1 := HT.out.t; have tu0 := s1.cu 0 (by decide); have tu1 := s1.cu 1 (by decide); have tu2 := s1.cu 2 (by decide); have tu3 := s1.cu 3 (by decide); have tl0 := s1.cl 0 (by decide); have tl1 := s1.cl 1 (by decide); have tl2 := s1.cl 2 (by decide); have tl3 := s1.cl 3 (by decide); have tb0 := s1.cb 0 (by decide); have tb1 := s1.cb 1 (by decide); have tb2 := s1.cb 2 (by decide); have tb3 := s1.cb 3 (by decide); have td := s1.cd; have tz := s1.lt; clear s1)
    | (go_at_call 7; refine Calls.mono (H7.out _ HT.out.up) ?_; rintro e w2 ⟨rfl, hb⟩; have HT2 : Hid (Tq w w2 t) := HT.out.next hb; clear hb H7 HT; clear tu0 tu1 tu2 tu3 tl0 tl1 tl2 tl3 tb0 tb1 tb2 tb3 td tz; have s1 := HT2.out.t; have tu0 := s1.cu 0 (by decide); have tu1 := s1.cu 1 (by decide); have tu2 := s1.cu 2 (by decide); have tu3 := s1.cu 3 (by decide); have tl0 := s1.cl 0 (by decide); have tl1 := s1.cl 1 (by decide); have tl2 := s1.cl 2 (by decide); have tl3 := s1.cl 3 (by decide); have tb0 := s1.cb 0 (by decide); have tb1 := s1.cb 1 (by decide); have tb2 := s1.cb 2 (by decide); have tb3 := s1.cb 3 (by decide); have td := s1.cd; have tz := s1.lt; clear s1)
    | (go_at_call 8; refine Calls.mono (H8.out _ HT2.out.up) ?_; rintro e w3 ⟨rfl, hb⟩; have HT3 : Hid (Tq w w3 t) := HT2.out.next hb; clear hb H8 HT2; clear tu0 tu1 tu2 tu3 tl0 tl1 tl2 tl3 tb0 tb1 tb2 tb3 td tz; have s1 := HT3.out.t; have tu0 := s1.cu 0 (by decide); have tu1 := s1.cu 1 (by decide); have tu2 := s1.cu 2 (by decide); have tu3 := s1.cu 3 (by decide); have tl0 := s1.cl 0 (by decide); have tl1 := s1.cl 1 (by decide); have tl2 := s1.cl 2 (by decide); have tl3 := s1.cl 3 (by decide); have tb0 := s1.cb 0 (by decide); have tb1 := s1.cb 1 (by decide); have tb2 := s1.cb 2 (by decide); have tb3 := s1.cb 3 (by decide); have td := s1.cd; have tz := s1.lt; clear s1)
    | (go_at_call 9; refine Calls.mono (H9.out _ HT3.out.up) ?_; rintro e w4 ⟨rfl, hb⟩; have HT4 : Hid (Tq w w4 t) := HT3.out.next hb; clear hb H9 HT3; clear tu0 tu1 tu2 tu3 tl0 tl1 tl2 tl3 tb0 tb1 tb2 tb3 td tz; have s1 := HT4.out.t; have tu0 := s1.cu 0 (by decide); have tu1 := s1.cu 1 (by decide); have tu2 := s1.cu 2 (by decide); have tu3 := s1.cu 3 (by decide); have tl0 := s1.cl 0 (by decide); have tl1 := s1.cl 1 (by decide); have tl2 := s1.cl 2 (by decide); have tl3 := s1.cl 3 (by decide); have tb0 := s1.cb 0 (by decide); have tb1 := s1.cb 1 (by decide); have tb2 := s1.cb 2 (by decide); have tb3 := s1.cb 3 (by decide); have td := s1.cd; have tz := s1.lt; clear s1)
    | (go_at_call 10; refine Calls.mono (H10.out _ HT4.out.up) ?_; rintro e w5 ⟨rfl, hb⟩; have HT5 : Hid (Tq w w5 t) := HT4.out.next hb; clear hb H10 HT4; clear tu0 tu1 tu2 tu3 tl0 tl1 tl2 tl3 tb0 tb1 tb2 tb3 td tz; have s1 := HT5.out.t; have tu0 := s1.cu 0 (by decide); have tu1 := s1.cu 1 (by decide); have tu2 := s1.cu 2 (by decide); have tu3 := s1.cu 3 (by decide); have tl0 := s1.cl 0 (by decide); have tl1 := s1.cl 1 (by decide); have tl2 := s1.cl 2 (by decide); have tl3 := s1.cl 3 (by decide); have tb0 := s1.cb 0 (by decide); have tb1 := s1.cb 1 (by decide); have tb2 := s1.cb 2 (by decide); have tb3 := s1.cb 3 (by decide); have td := s1.cd; have tz := s1.lt; clear s1)
    | (go_at_call 11; refine Calls.mono (H11.out _ HT5.out.up) ?_; rintro e w6 ⟨rfl, hb⟩; have HT6 : Hid (Tq w w6 t) := HT5.out.next hb; clear hb H11 HT5; clear tu0 tu1 tu2 tu3 tl0 tl1 tl2 tl3 tb0 tb1 tb2 tb3 td tz))
  go_wp2_with (first
    | (go_at_call 12; refine Calls.mono (HW.out _ HT6.out.up) ?_; rintro e w7 ⟨rfl, hb⟩; have HT7 : Hid (Tq w w7 t) := HT6.out.next hb; clear hb HW HT6))
  go_ret
  exact ⟨rfl, HT7.out.up⟩
set_option maxHeartbeats 8000000 in
theorem tell_long (ao : Option Addr) (cap : Nat) (xs : List O) (t : Tab) (w : World) (h : OpsAt w ao xs) (hcap : xs.length ≤ cap) (hG : Bnds w) (hlong : 64 < xs.length) :
    Calls Tryd.prog 3 #[.slice ao xs.length cap, t.val] w fun e w' => e = .returned (.bool true) ∧ Below w.heap.size w w' := by
  obtain ⟨ys, hys⟩ : ∃ ys, ys = xs := ⟨_, rfl⟩
  have hyl : ys.length = xs.length := by rw [hys]
  have hO : OpsAt w ao ys := by rw [hys]; exact h
  have hY : rgE t ys = 0 → ys.length ≤ 41 := fun he => by have := (rg_ok he).2.1; omega
  have hD : rgE t ys = 0 → Rdy ys.length (loopE t ys) := fun he => rdy_of (loopE_ok hO he) (hY he)
  have HW : Hid (∀ W, Below w.heap.size w W → Calls Tryd.prog 12 #[] W fun e w' => e = .returned (.bool true) ∧ Below W.heap.size W w') := fun W hb => wakes_any W (hG.below hb hG.big)
  have H6 : Hid (∀ W, Below w.heap.size w W → Calls Tryd.prog 6 #[.slice ao xs.length cap, t.val] W fun e w' => e = .returned (.tuple #[.int .i64 (unE t ys), .int .i64 (rgE t ys)]) ∧ Below W.heap.size W w') := fun W hb => by
    have := units_any ao cap ys t W (hO.below hb) (by omega) (hG.below hb hG.big)
    rw [hyl] at this; exact this
  have H7 : Hid (∀ W, Below w.heap.size w W → Calls Tryd.prog 7 #[.slice ao xs.length cap, t.val] W fun e w' => e = .returned (.tuple #[.int .i64 (unE t ys), .int .i64 (rgE t ys)]) ∧ Below W.heap.size W w') := fun W hb => by
    have := refUnits_any ao cap ys t W (hO.below hb)
    rw [hyl] at this; exact this
  have H8 : Hid (∀ W, Below w.heap.size w W → Calls Tryd.prog 8 #[.slice ao xs.length cap, t.val] W fun e w' => e = .returned (.tuple #[.int .i64 (roE t ys), .int .i64 (rgE t ys)]) ∧ Below W.heap.size W w') := fun W hb => by
    have := rounds_any ao cap ys t W (hO.below hb) (by omega) (hG.below hb hG.big) hD
    rw [hyl] at this; exact this
  have H9 : Hid (∀ W, Below w.heap.size w W → Calls Tryd.prog 9 #[.slice ao xs.length cap, t.val] W fun e w' => e = .returned (.tuple #[.int .i64 (roE t ys), .int .i64 (rgE t ys)]) ∧ Below W.heap.size W w') := fun W hb => by
    have := refRounds_any ao cap ys t W (hO.below hb) hY
    rw [hyl] at this; exact this
  have H10 : Hid (∀ W, Below w.heap.size w W → Calls Tryd.prog 10 #[.slice ao xs.length cap, t.val] W fun e w' => e = .returned (.tuple #[.int .i64 (leE t ys), .int .i64 (rgE t ys)]) ∧ Below W.heap.size W w') := fun W hb => by
    have := least_any ao cap ys t W (hO.below hb) (by omega) (hG.below hb hG.big) hD
    rw [hyl] at this; exact this
  have H11 : Hid (∀ W, Below w.heap.size w W → Calls Tryd.prog 11 #[.slice ao xs.length cap, t.val] W fun e w' => e = .returned (.tuple #[.int .i64 (leE t ys), .int .i64 (rgE t ys)]) ∧ Below W.heap.size W w') := fun W hb => by
    have := refLeast_any ao cap ys t W (hO.below hb) hY
    rw [hyl] at this; exact this
  have hlen := h.len
  have hl1 : (24 : Int) < (xs.length : Int) := by omega
  have hl2 : ¬ (xs.length : Int) ≤ 64 := by omega
  have hlen' : (xs.length : Int) ≤ 8796093022208 := by omega
  have hcap' : (xs.length : Int) ≤ (cap : Int) := by omega
  clear h hcap hG hO hY hD hyl hys hlong
  generalize unE t ys = un at *
  generalize roE t ys = ro at *
  generalize leE t ys = le at *
  generalize rgE t ys = er at *
  unfold Tab.val at *
  go_enter Tryd.func3, Tryd.ntmps3
  go_upto_region 3 with fail
  go_upto_region 9 with (first
    | (go_at_call 6; refine Calls.mono (H6.out _ (by go_grown)) ?_; rintro e w1 ⟨rfl, hb⟩; have HT : Hid (Tq w w1 t) := Tq.start w t hb; clear hb H6; have s1 := HT.out.t; have tu0 := s1.cu 0 (by decide); have tu1 := s1.cu 1 (by decide); have tu2 := s1.cu 2 (by decide); have tu3 := s1.cu 3 (by decide); have tl0 := s1.cl 0 (by decide); have tl1 := s1.cl 1 (by decide); have tl2 := s1.cl 2 (by decide); have tl3 := s1.cl 3 (by decide); have tb0 := s1.cb 0 (by decide); have tb1 := s1.cb 1 (by decide); have tb2 := s1.cb 2 (by decide); have tb3 := s1.cb 3 (by decide); have td := s1.cd; have tz := s1.lt; clear s1)
    | (go_at_call 7; refine Calls.mono (H7.out _ HT.out.up) ?_; rintro e w2 ⟨rfl, hb⟩; have HT2 : Hid (Tq w w2 t) := HT.out.next hb; clear hb H7 HT; clear tu0 tu1 tu2 tu3 tl0 tl1 tl2 tl3 tb0 tb1 tb2 tb3 td tz; have s1 := HT2.out.t; have tu0 := s1.cu 0 (by decide); have tu1 := s1.cu 1 (by decide); have tu2 := s1.cu 2 (by decide); have tu3 := s1.cu 3 (by decide); have tl0 := s1.cl 0 (by decide); have tl1 := s1.cl 1 (by decide); have tl2 := s1.cl 2 (by decide); have tl3 := s1.cl 3 (by decide); have tb0 := s1.cb 0 (by decide); have tb1 := s1.cb 1 (by decide); have tb2 := s1.cb 2 (by decide); have tb3 := s1.cb 3 (by decide); have td := s1.cd; have tz := s1.lt; clear s1)
    | (go_at_call 8; refine Calls.mono (H8.out _ HT2.out.up) ?_; rintro e w3 ⟨rfl, hb⟩; have HT3 : Hid (Tq w w3 t) := HT2.out.next hb; clear hb H8 HT2; clear tu0 tu1 tu2 tu3 tl0 tl1 tl2 tl3 tb0 tb1 tb2 tb3 td tz; have s1 := HT3.out.t; have tu0 := s1.cu 0 (by decide); have tu1 := s1.cu 1 (by decide); have tu2 := s1.cu 2 (by decide); have tu3 := s1.cu 3 (by decide); have tl0 := s1.cl 0 (by decide); have tl1 := s1.cl 1 (by decide); have tl2 := s1.cl 2 (by decide); have tl3 := s1.cl 3 (by decide); have tb0 := s1.cb 0 (by decide); have tb1 := s1.cb 1 (by decide); have tb2 := s1.cb 2 (by decide); have tb3 := s1.cb 3 (by decide); have td := s1.cd; have tz := s1.lt; clear s1)
    | (go_at_call 9; refine Calls.mono (H9.out _ HT3.out.up) ?_; rintro e w4 ⟨rfl, hb⟩; have HT4 : Hid (Tq w w4 t) := HT3.out.next hb; clear hb H9 HT3; clear tu0 tu1 tu2 tu3 tl0 tl1 tl2 tl3 tb0 tb1 tb2 tb3 td tz; have s1 := HT4.out.t; have tu0 := s1.cu 0 (by decide); have tu1 := s1.cu 1 (by decide); have tu2 := s1.cu 2 (by decide); have tu3 := s1.cu 3 (by decide); have tl0 := s1.cl 0 (by decide); have tl1 := s1.cl 1 (by decide); have tl2 := s1.cl 2 (by decide); have tl3 := s1.cl 3 (by decide); have tb0 := s1.cb 0 (by decide); have tb1 := s1.cb 1 (by decide); have tb2 := s1.cb 2 (by decide); have tb3 := s1.cb 3 (by decide); have td := s1.cd; have tz := s1.lt; clear s1)
    | (go_at_call 10; refine Calls.mono (H10.out _ HT4.out.up) ?_; rintro e w5 ⟨rfl, hb⟩; have HT5 : Hid (Tq w w5 t) := HT4.out.next hb; clear hb H10 HT4; clear tu0 tu1 tu2 tu3 tl0 tl1 tl2 tl3 tb0 tb1 tb2 tb3 td tz; have s1 := HT5.out.t; have tu0 := s1.cu 0 (by decide); have tu1 := s1.cu 1 (by decide); have tu2 := s1.cu 2 (by decide); have tu3 := s1.cu 3 (by decide); have tl0 := s1.cl 0 (by decide); have tl1 := s1.cl 1 (by decide); have tl2 := s1.cl 2 (by decide); have tl3 := s1.cl 3 (by decide); have tb0 := s1.cb 0 (by decide); have tb1 := s1.cb 1 (by decide); have tb2 := s1.cb 2 (by decide); have tb3 := s1.cb 3 (by decide); have td := s1.cd; have tz := s1.lt; clear s1)
    | (go_at_call 11; refine Calls.mono (H11.out _ HT5.out.up) ?_; rintro e w6 ⟨rfl, hb⟩; have HT6 : Hid (Tq w w6 t) := HT5.out.next hb; clear hb H11 HT5; clear tu0 tu1 tu2 tu3 tl0 tl1 tl2 tl3 tb0 tb1 tb2 tb3 td tz))
  go_wp2_with (first
    | (go_at_call 12; refine Calls.mono (HW.out _ HT6.out.up) ?_; rintro e w7 ⟨rfl, hb⟩; have HT7 : Hid (Tq w w7 t) := HT6.out.next hb; clear hb HW HT6))
  go_ret
  exact ⟨rfl, HT7.out.up⟩
theorem law_tell (ao : Option Addr) (cap : Nat) (xs : List O) (t : Tab) (w : World) (h : OpsAt w ao xs) (hcap : xs.length ≤ cap) (hG : Bnds w) :
    Calls Tryd.prog 3 #[.slice ao xs.length cap, t.val] w fun e w' => e = .returned (.bool true) ∧ Below w.heap.size w w' := by
  by_cases hl : xs.length ≤ 24
  · exact tell_short ao cap xs t w h hcap hG hl
  · by_cases hl2 : xs.length ≤ 64
    · exact tell_mid ao cap xs t w h hcap hG ⟨by omega, hl2⟩
    · exact tell_long ao cap xs t w h hcap hG (by omega)
end Go.Proofs.YthdpgimdakmdgaaDoor.Bn

namespace Go.Proofs.YthdpgimdakmdgaaDoor.Op
open Go.ChangeShapes Go.WideShapes Go.ChangeAt Go.RowKit
open Tb (Tab)
theorem wf64 {n : Int} (h : (Lit.int .i64 n).wf = true) : -9223372036854775808 ≤ n ∧ n ≤ 9223372036854775807 := by
  simp [Lit.wf, IntKind.min, IntKind.max, IntKind.signed, IntKind.bits] at h
  omega
theorem wf8 {n : Int} (h : (Lit.int .i8 n).wf = true) : -128 ≤ n ∧ n ≤ 127 := by
  simp [Lit.wf, IntKind.min, IntKind.max, IntKind.signed, IntKind.bits] at h
  omega
theorem wfu8 {n : Int} (h : (Lit.int .u8 n).wf = true) : 0 ≤ n ∧ n ≤ 255 := by
  simp [Lit.wf, IntKind.min, IntKind.max, IntKind.signed, IntKind.bits] at h
  omega
theorem own : ownKnob Tryd.prog.godebug = none := by kernel_rfl
set_option maxRecDepth 20000 in
/-- A pair of bounds, out of its reading. -/
theorem bnd_of {W : World} {n : String} {g : Nat} {a b : Int} (h : Lib.VarReads Tryd.prog W n (.agg [.lit (.int .i64 a), .lit (.int .i64 b)])) (hg : Tryd.prog.globalNamed n = some g) (ht : (Tryd.prog.globals[g]?).map (·.type) = some 77) :
    W.cell? ⟨g, 0, none⟩ = some (.int .i64 a) ∧ W.cell? ⟨g, 1, none⟩ = some (.int .i64 b) := by
  obtain ⟨g0, t0, cs, fuel, p, h1, h2, h3, h4⟩ := h
  obtain rfl := Option.some.inj (hg.symm.trans h1)
  obtain rfl := Option.some.inj (ht.symm.trans h2)
  obtain ⟨y0, y1, n', hx, hl, e0, e1⟩ := trod_struct2 Tryd.underlying77 h4
  have c3 : Tryd.prog.cellsOf 3 = 1 := by kernel_rfl
  have c62 : Tryd.prog.cellsOf 77 = 2 := by kernel_rfl
  obtain ⟨k0, f0, f1, _⟩ := DataW.trod_int Tryd.underlying3 e0
  obtain ⟨k1, f2, f3, _⟩ := DataW.trod_int Tryd.underlying3 e1
  rw [c3] at f0 f2
  rw [c62] at hl
  obtain ⟨l⟩ := cs
  match l, hl with
  | [v0, v1], _ =>
    simp at f0 f2
    subst f0 f2
    simp [f1, f3] at hx
    obtain ⟨⟨rfl, rfl⟩, _⟩ := hx
    exact ⟨by simpa using World.var?_cell h1 h3 0, by simpa using World.var?_cell h1 h3 1⟩
theorem trod_bool1 {H : Type} {enc : TypeId × Value → H} {W : World} {base fuel : Nat} {sp : Nat → Bool} {held : Bool} {c : Value} {y : DataW H × List MemPlace} (h : DataW.trod enc Tryd.prog W base sp held fuel 4 [c] = some y) : ∃ b : Bool, c = .bool b ∧ y.1 = .lit (.bool b) := by
  obtain ⟨b, e, f⟩ := DataW.trod_bool Tryd.underlying4 h
  exact ⟨b, by simpa using e, by rw [f]⟩
def laid4 : List (String × DataW Unit) := [("hayloft/table.unitsBounds", Rows.laid_hayloft_table_unitsBounds), ("hayloft/table.latBounds", Rows.laid_hayloft_table_latBounds), ("hayloft/table.busyBounds", Rows.laid_hayloft_table_busyBounds), ("hayloft/table.delayBounds", Rows.laid_hayloft_table_delayBounds)]
theorem big_of {W : World} (hsh : W.ShapedOpen Tryd.prog) : 5 ≤ W.heap.size := by
  have globs : Tryd.prog.globals.size = 4 := by kernel_rfl
  have big : 5 < (begin Tryd.prog (fun _ _ => 0) default).world.heap.size := of_decide_eq_true (by kernel_rfl)
  obtain ⟨o, o0, h1, _⟩ := hsh.2 5 (by rw [globs]; decide) big
  rcases Nat.lt_or_ge 5 W.heap.size with h | h
  · omega
  · rw [Array.getElem?_eq_none h] at h1; cases h1
set_option maxRecDepth 20000 in
theorem bnds_of {W : World} {l : List (String × DataW Unit)} (hP : laidMet Tryd.prog l W) (hu : ("hayloft/table.unitsBounds", Rows.laid_hayloft_table_unitsBounds) ∈ l) (hl : ("hayloft/table.latBounds", Rows.laid_hayloft_table_latBounds) ∈ l) (hb : ("hayloft/table.busyBounds", Rows.laid_hayloft_table_busyBounds) ∈ l) (hd : ("hayloft/table.delayBounds", Rows.laid_hayloft_table_delayBounds) ∈ l) (hz : 5 ≤ W.heap.size) : Tb.Bnds W := by
  have hd := bnd_of (Lib.laidMet.reads hP (n := "hayloft/table.delayBounds") (d := Rows.laid_hayloft_table_delayBounds) hd) (g := 0) (by kernel_rfl) (by kernel_rfl)
  have hu := bnd_of (Lib.laidMet.reads hP (n := "hayloft/table.unitsBounds") (d := Rows.laid_hayloft_table_unitsBounds) hu) (g := 1) (by kernel_rfl) (by kernel_rfl)
  have hl := bnd_of (Lib.laidMet.reads hP (n := "hayloft/table.latBounds") (d := Rows.laid_hayloft_table_latBounds) hl) (g := 2) (by kernel_rfl) (by kernel_rfl)
  have hb := bnd_of (Lib.laidMet.reads hP (n := "hayloft/table.busyBounds") (d := Rows.laid_hayloft_table_busyBounds) hb) (g := 3) (by kernel_rfl) (by kernel_rfl)
  exact ⟨hd.1, hd.2, hu.1, hu.2, hl.1, hl.2, hb.1, hb.2, hz⟩
theorem env4 {W : World} (hL : laidMetH Tryd.prog laid4 W) (hsh : W.ShapedOpen Tryd.prog) : Tb.Bnds W :=
  bnds_of (l := laid4) hL (by simp [laid4]) (by simp [laid4]) (by simp [laid4]) (by simp [laid4]) (big_of hsh)
set_option maxRecDepth 100000 in
/-- The wrap: what the listed variables hold, and the world's shape, are handed to the contract. -/
theorem wrap {H : Type} {enc : TypeId × Value → H} {os : Os} {f : FuncId} {fn : Func} {s : ChangeSpec} {lv : List (String × DataW Unit)} (started : os.Started) (noInit : Tryd.prog.inits.idxOf? f = none) (hfn : Tryd.prog.funcs[f]? = some fn)
    (witness : ∃ (w : World) (tape : Tape) (i : Input), w.os = os ∧ (w.forCall tape i).Shaped Tryd.prog ∧ i.vars = [] ∧ Input.okWide Tryd.prog (w.forCall tape i) .any w.heap.size f i ∧
      ((s.pre enc Tryd.prog fn [] false (w.forCall tape i).memory i.args ∧ laidMetH Tryd.prog lv (w.forCall tape i).memory) ∧ sizedMet enc Tryd.prog fn (OpenSpec.ofChange s) false (w.forCall tape i).memory i.args) ∧ Assume.holds {} Tryd.prog (lone (Frame.enter Tryd.prog f i.args .normal) [] (w.forCall tape i)))
    (contract : ∀ (W : World) (base : Nat) (args : Array Value) (ds gs : List (DataW H)) (before : List MemPlace),
      (∀ (j : Nat) t v, fn.params[j]? = some t → args[j]? = some v → Value.okWide Tryd.prog W .any base t v) →
      DataW.Whole enc Tryd.prog fn.params.toList s.vars false W args.toList ds gs before →
      (DataW.weightsEach Tryd.prog (fn.params.toList ++ s.plain.varTypes Tryd.prog) (ds ++ gs)).all (· ≤ reachBytes) = true →
      laidMetH Tryd.prog lv W → W.ShapedOpen Tryd.prog →
      Calls Tryd.prog f args W fun e W' => ∃ v, e = .returned v ∧ s.post enc Tryd.prog fn false true false false W args v W') :
    ReturnsInHanded {} Tryd.checked os f .any (fun w args => (s.pre enc Tryd.prog fn [] false w args ∧ laidMetH Tryd.prog lv w) ∧ sizedMet enc Tryd.prog fn (OpenSpec.ofChange s) false w args) (s.post enc Tryd.prog fn false true false false) := by
  refine returnsInHanded_of_calls (C := Tryd.checked) own started noInit witness ?_
  intro w tape i _ hsh _ hok hpre hholds
  obtain ⟨_, _, _, fn', hfn', _, _, _, _, hval⟩ := hok
  have e : fn' = fn := Option.some.inj (hfn'.symm.trans hfn)
  subst e
  obtain ⟨⟨⟨ds, gs, before, hw, hc⟩, hx⟩, hz⟩ := hpre
  have hw' := DataW.Whole.of_heap (w' := w.forCall tape i) (by rfl) hw
  refine (contract (w.forCall tape i) w.heap.size i.args ds gs before hval hw' (hz.weights hw) (hx.of_heap (by rfl)) hsh).mono fun e W' ⟨v, he, hp⟩ => ?_
  subst he
  exact ChangeSpec.post_blind hp
set_option maxRecDepth 100000 in
theorem wit_met4 (os : Os) (args : Array Value) : laidMetH Tryd.prog laid4 ((((World.holding Tryd.prog os ⟨#[], #[], []⟩).layVars Tryd.prog laid4).forCall (fun _ _ => 0) ⟨#[], args, []⟩).memory) := by
  refine laidMetH_of_parts ?_ (by kernel_rfl)
  have h : laidMet Tryd.prog laid4 ((World.holding Tryd.prog os ⟨#[], #[], []⟩).layVars Tryd.prog laid4) :=
    laidMet_layVars (w0 := World.holding Tryd.prog os ⟨#[], #[], []⟩) ["hayloft/table.unitsBounds", "hayloft/table.latBounds", "hayloft/table.busyBounds", "hayloft/table.delayBounds"] [] (by rw [show (laid4.filter fun x => (["hayloft/table.unitsBounds", "hayloft/table.latBounds", "hayloft/table.busyBounds", "hayloft/table.delayBounds"] : List String).contains x.1) = laid4 from by kernel_rfl]) (by kernel_rfl) (by kernel_rfl) (by rw [show (laid4.filter fun x => !(["hayloft/table.unitsBounds", "hayloft/table.latBounds", "hayloft/table.busyBounds", "hayloft/table.delayBounds"] : List String).contains x.1) = [] from by kernel_rfl]; exact LaidIn.none)
  exact h.of_heap (by simp [World.memory, World.forCall, Input.heap])
theorem wit_os4 (os : Os) : ((World.holding Tryd.prog os ⟨#[], #[], []⟩).layVars Tryd.prog laid4).os = os := World.layVars_os _ _ _
theorem tySize : Tryd.prog.types.size = 139 := by kernel_rfl
theorem laidOut : laidOutB Tryd.prog = true := by kernel_rfl
theorem trod_ints4 {H : Type} {enc : TypeId × Value → H} {W : World} {base fuel : Nat} {sp : Nat → Bool} {held : Bool} {c0 c1 c2 c3 : Value} {y : DataW H × List MemPlace} (h : DataW.trod enc Tryd.prog W base sp held fuel 23 [c0, c1, c2, c3] = some y) :
    ∃ a b c d : Int, c0 = .int .i64 a ∧ c1 = .int .i64 b ∧ c2 = .int .i64 c ∧ c3 = .int .i64 d ∧ y.2 = [] := by
  obtain ⟨xs, m, _, hx, _, hn, he⟩ := DataW.trod_array Tryd.underlying23 h
  have k3 : Tryd.prog.cellsOf 3 = 1 := by kernel_rfl
  rw [k3] at he
  have h0 := he 0 (by omega)
  have h1 := he 1 (by omega)
  have h2 := he 2 (by omega)
  have h3 := he 3 (by omega)
  match xs, hn with
  | [x0, x1, x2, x3], _ =>
    obtain ⟨a, a1, a2, _⟩ := DataW.trod_int Tryd.underlying3 h0
    obtain ⟨b, b1, b2, _⟩ := DataW.trod_int Tryd.underlying3 h1
    obtain ⟨c, c1', c2', _⟩ := DataW.trod_int Tryd.underlying3 h2
    obtain ⟨d, d1, d2, _⟩ := DataW.trod_int Tryd.underlying3 h3
    simp at a1 b1 c1' d1
    refine ⟨a, b, c, d, a1, b1, c1', d1, ?_⟩
    rw [hx]; simp [a2, b2, c2', d2]
def ofFour (a b c d : Int) : Nat → Int := fun k => if k = 0 then a else if k = 1 then b else if k = 2 then c else d
set_option maxRecDepth 100000 in
theorem open_tab {H : Type} {enc : TypeId × Value → H} {W : World} {r : Reach} {b0 base : Nat} {sp : Nat → Bool} {held : Bool} {v : Value} {d : DataW H} {p : List MemPlace} (hv : Value.okWide Tryd.prog W r b0 25 v) (h : DataW.Trod enc Tryd.prog W base sp held 25 v d p) : (∃ t : Tab, v = t.val) ∧ p = [] := by
  obtain ⟨cs, rfl, hsz⟩ := okWide_struct Tryd.underlying25 hv
  have k27 : Tryd.prog.cellsOf 25 = 13 := by kernel_rfl
  have k25 : Tryd.prog.cellsOf 23 = 4 := by kernel_rfl
  have k3 : Tryd.prog.cellsOf 3 = 1 := by kernel_rfl
  rw [k27] at hsz
  obtain ⟨l⟩ := cs
  clear hv
  match l, hsz with
  | [c0, c1, c2, c3, c4, c5, c6, c7, c8, c9, c10, c11, c12], _ =>
    obtain ⟨fuel, hf⟩ := h
    obtain ⟨y0, y1, y2, y3, n, hx, _, h0, h1, h2, h3⟩ := Joins.trod_struct4 Tryd.underlying25 hf
    rw [k25] at h0 h1 h2
    rw [k3] at h3
    obtain ⟨a0, a1, a2, a3, rfl, rfl, rfl, rfl, e0⟩ := trod_ints4 h0
    obtain ⟨l0, l1, l2, l3, rfl, rfl, rfl, rfl, e1⟩ := trod_ints4 h1
    obtain ⟨b0, b1, b2, b3, rfl, rfl, rfl, rfl, e2⟩ := trod_ints4 h2
    obtain ⟨dd, f1, f2, _⟩ := DataW.trod_int Tryd.underlying3 h3
    have f1' : [c12] = [Value.int .i64 dd] := f1
    obtain rfl : c12 = .int .i64 dd := by simpa using f1'
    refine ⟨⟨⟨ofFour a0 a1 a2 a3, ofFour l0 l1 l2 l3, ofFour b0 b1 b2 b3, dd⟩, rfl⟩, ?_⟩
    simp [e0, e1, e2, f2] at hx
    exact hx.2
theorem trod_struct5 {H : Type} {enc : TypeId × Value → H} {P : Program} {w : World} {base : Nat} {spare : Nat → Bool} {held : Bool} {t : TypeId} {f0 f1 f2 f3 f4 : Field} {fuel : Nat} {cs : List Value} {x : DataW H × List MemPlace} (ht : P.underlying t = some (.struct #[f0, f1, f2, f3, f4])) (h : DataW.trod enc P w base spare held fuel t cs = some x) :
    ∃ y0 y1 y2 y3 y4 n, x = (.agg [y0.1, y1.1, y2.1, y3.1, y4.1], y0.2 ++ (y1.2 ++ (y2.2 ++ (y3.2 ++ y4.2)))) ∧ cs.length = P.cellsOf t ∧ DataW.trod enc P w base spare held n f0.type ((cs.drop f0.offset).take (P.cellsOf f0.type)) = some y0 ∧
      DataW.trod enc P w base spare held n f1.type ((cs.drop f1.offset).take (P.cellsOf f1.type)) = some y1 ∧ DataW.trod enc P w base spare held n f2.type ((cs.drop f2.offset).take (P.cellsOf f2.type)) = some y2 ∧
      DataW.trod enc P w base spare held n f3.type ((cs.drop f3.offset).take (P.cellsOf f3.type)) = some y3 ∧ DataW.trod enc P w base spare held n f4.type ((cs.drop f4.offset).take (P.cellsOf f4.type)) = some y4 := by
  obtain ⟨xs, n, _, rfl, hl, hlen, hf⟩ := DataW.trod_struct ht h
  match xs, hlen with
  | [y0, y1, y2, y3, y4], _ => exact ⟨y0, y1, y2, y3, y4, n, by simp, hl, by simpa using hf 0 f0 rfl, by simpa using hf 1 f1 rfl, by simpa using hf 2 f2 rfl, by simpa using hf 3 f3 rfl, by simpa using hf 4 f4 rfl⟩
set_option maxRecDepth 20000
theorem opsAt_nil (w : World) (ao : Option Addr) : OpsAt w ao [] := ⟨by simp, by simp, fun h => by simp at h⟩
theorem reach_eq : reachBytes = 140737488351232 := rfl
theorem addr_add (b f : Nat) (n : Nat) : (⟨b, f, none⟩ : Addr).add n = ⟨b, f + n, none⟩ := by
  unfold Addr.add
  split
  · rename_i h; subst h; rfl
  · rfl
/-- Cells in a row, told by block and offset. -/
theorem cells_at {w : World} {b f n : Nat} {cs : List Value} (h : w.cells? 0 ⟨b, f, none⟩ n = some cs) (hn : 0 < n) : b < w.heap.size ∧ ∀ i v, cs[i]? = some v → w.cell? ⟨b, f + i, none⟩ = some v := by
  obtain ⟨_, hl, hc⟩ := World.cells?_some h
  refine ⟨World.cells?_block h hn, fun i v e => ?_⟩
  have hi : i < n := by
    rcases Nat.lt_or_ge i n with h | h
    · exact h
    · rw [List.getElem?_eq_none (by omega)] at e; cases e
  have := hc i hi
  rw [addr_add, e] at this
  exact this
theorem spot_none {w : World} {a : Addr} {n : Nat} {cs : List Value} (h : w.cells? 0 a n = some cs) (hn : 0 < n) : a = ⟨a.block, a.off, none⟩ := by
  obtain ⟨_, hl, hc⟩ := World.cells?_some h
  have h0 := hc 0 hn
  have ha : a.add 0 = a := by unfold Addr.add; simp
  rw [ha, List.getElem?_eq_getElem (by omega)] at h0
  obtain ⟨b, f, s⟩ := a
  cases s with
  | none => rfl
  | some s =>
    unfold World.cell? at h0
    split at h0
    · simp at h0
    · cases h0
theorem weightsAll_mem {H : Type} {P : Program} {e : TypeId} {d : DataW H} {n : Nat} : ∀ {l : List (DataW H)}, d ∈ l → n ∈ d.weights P e → n ∈ DataW.weightsAll P e l
  | x :: r, hd, hn => by
    unfold DataW.weightsAll
    rcases List.mem_cons.1 hd with rfl | hd
    · exact List.mem_append_left _ hn
    · exact List.mem_append_right _ (weightsAll_mem hd hn)
/-- One operation, out of its cells. -/
theorem open_o {H : Type} {enc : TypeId × Value → H} {W : World} {base fuel : Nat} {sp : Nat → Bool} {held : Bool} {cs : List Value} {y : DataW H × List MemPlace} (h : DataW.trod enc Tryd.prog W base sp held fuel 33 cs = some y) : ∃ o : O, o.Ok ∧ cs = [.int .i8 o.op, .int .u8 o.d, .int .u8 o.a, .int .u8 o.b, .int .i64 o.im] := by
  have k49 : Tryd.prog.cellsOf 33 = 5 := by kernel_rfl
  have k38 : Tryd.prog.cellsOf 31 = 1 := by kernel_rfl
  have k5 : Tryd.prog.cellsOf 5 = 1 := by kernel_rfl
  have k2 : Tryd.prog.cellsOf 2 = 1 := by kernel_rfl
  obtain ⟨y0, y1, y2, y3, y4, n, hx, hl, h0, h1, h2, h3, h4⟩ := trod_struct5 Tryd.underlying33 h
  rw [k49] at hl
  match cs, hl with
  | [c0, c1, c2, c3, c4], _ =>
    rw [k38] at h0
    rw [k5] at h1 h2 h3
    rw [k2] at h4
    obtain ⟨a, a1, a2, a3⟩ := DataW.trod_int Tryd.underlying31 h0
    obtain ⟨b, b1, b2, b3⟩ := DataW.trod_int Tryd.underlying5 h1
    obtain ⟨c, c1', c2', c3'⟩ := DataW.trod_int Tryd.underlying5 h2
    obtain ⟨e, e1, e2, e3⟩ := DataW.trod_int Tryd.underlying5 h3
    obtain ⟨g, g1, g2, g3⟩ := DataW.trod_int Tryd.underlying2 h4
    have a1' : [c0] = [Value.int .i8 a] := a1
    have b1' : [c1] = [Value.int .u8 b] := b1
    have c1'' : [c2] = [Value.int .u8 c] := c1'
    have e1' : [c3] = [Value.int .u8 e] := e1
    have g1' : [c4] = [Value.int .i64 g] := g1
    obtain rfl : c0 = .int .i8 a := by simpa using a1'
    obtain rfl : c1 = .int .u8 b := by simpa using b1'
    obtain rfl : c2 = .int .u8 c := by simpa using c1''
    obtain rfl : c3 = .int .u8 e := by simpa using e1'
    obtain rfl : c4 = .int .i64 g := by simpa using g1'
    have w0 := wf8 a3
    have w1 := wfu8 b3
    have w2 := wfu8 c3'
    have w3 := wfu8 e3
    have w4 := wf64 g3
    exact ⟨⟨a, b, c, e, g⟩, ⟨w0.1, w0.2, w1.1, w1.2, w2.1, w2.2, w3.1, w3.2, w4.1, w4.2⟩, rfl⟩
/-- A list of operations, out of its cell. -/
theorem open_list {H : Type} {enc : TypeId × Value → H} {W : World} {fuel : Nat} {held : Bool} {cs : List Value} {y : DataW H × List MemPlace} (h : DataW.trod enc Tryd.prog W 0 (fun _ => true) held fuel 22 cs = some y) (hw : ∀ n, n ∈ y.1.weights Tryd.prog 22 → n ≤ reachBytes) :
    ∃ (ao : Option Addr) (cap : Nat) (xs : List O), cs = [.slice ao xs.length cap] ∧ OpsAt W ao xs ∧ xs.length ≤ cap := by
  have k49 : Tryd.prog.cellsOf 33 = 5 := by kernel_rfl
  have b49 : Tryd.prog.bytesOf 33 = 16 := by kernel_rfl
  rcases Deep.open_slice Tryd.underlying22 h with ⟨rfl, rfl⟩ | ⟨a, len, cap, m, n, D, Pl, rfl, _, hlc, _, hm, rfl, hx⟩
  · exact ⟨none, 0, [], rfl, opsAt_nil _ _, by simp⟩
  · have hmc : m = cap := by simpa using hm
    subst hmc
    have hcap : m * 16 ≤ reachBytes := by
      refine hw _ ?_
      unfold DataW.weights
      simp only [Tryd.underlying22, b49]
      refine List.mem_cons.2 (.inl ?_)
      simp; omega
    rw [reach_eq] at hcap
    rw [k49] at hx
    haveI : Inhabited O := ⟨⟨0, 0, 0, 0, 0⟩⟩
    obtain ⟨X, hX⟩ := Deep.choose_lt (α := O) (n := len) (p := fun i o => o.Ok ∧ W.cells? 0 (a.add (i * 5)) 5 = some [.int .i8 o.op, .int .u8 o.d, .int .u8 o.a, .int .u8 o.b, .int .i64 o.im]) (fun i hi => by
      obtain ⟨cs', h1, h2⟩ := hx i (by omega)
      obtain ⟨o, ho, rfl⟩ := open_o h2
      exact ⟨o, ho, h1⟩)
    refine ⟨some a, m, (List.range len).map X, by simp, ⟨fun o ho => ?_, by simp; omega, fun h0 => ?_⟩, by simp; omega⟩
    · obtain ⟨i, hi, rfl⟩ := List.mem_map.1 ho
      exact (hX i (List.mem_range.1 hi)).1
    · have h0' : 0 < len := by simpa using h0
      have ha : a = ⟨a.block, a.off, none⟩ := by
        have := (hX 0 h0').2
        rw [show a.add (0 * 5) = a by unfold Addr.add; simp] at this
        exact spot_none this (by omega)
      refine ⟨a.block, a.off, by rw [← ha], ?_, fun i hi => ?_⟩
      · have := (hX 0 h0').2
        rw [ha, addr_add] at this
        exact (cells_at this (by omega)).1
      · have hi' : i < len := by simpa using hi
        have := (hX i hi').2
        rw [ha, addr_add] at this
        have hc := (cells_at this (by omega)).2
        simp only [List.getElem_map, List.getElem_range]
        exact ⟨hc 0 _ rfl, hc 1 _ rfl, hc 2 _ rfl, hc 3 _ rfl, hc 4 _ rfl⟩
theorem open_ops {H : Type} {enc : TypeId × Value → H} {W : World} {r : Reach} {b0 : Nat} {held : Bool} {v : Value} {d : DataW H} {p : List MemPlace} (hv : Value.okWide Tryd.prog W r b0 22 v) (h : DataW.Trod enc Tryd.prog W 0 (fun _ => true) held 22 v d p) (hw : ∀ n, n ∈ d.weights Tryd.prog 22 → n ≤ reachBytes) :
    ∃ (ao : Option Addr) (cap : Nat) (xs : List O), v = .slice ao xs.length cap ∧ OpsAt W ao xs ∧ xs.length ≤ cap := by
  obtain ⟨a, len, cap, rfl⟩ := okWide_slice Tryd.underlying22 hv
  obtain ⟨fuel, hf⟩ := h
  have hf' : DataW.trod enc Tryd.prog W 0 (fun _ => true) held fuel 22 [.slice a len cap] = some (d, p) := hf
  obtain ⟨ao, c, xs, e, h1, h2⟩ := open_list hf' hw
  exact ⟨ao, c, xs, by simpa using e, h1, h2⟩
end Go.Proofs.YthdpgimdakmdgaaDoor.Op

namespace Go.Proofs.YthdpgimdakmdgaaDoor.Cb
open Go.ChangeShapes Go.WideShapes Go.ChangeAt Go.RowKit
open _root_.Go.Proofs.YthdpgimdakmdgaaDoor.Op

set_option maxRecDepth 100000 in
theorem btell_wit (os : Os) (H : Type) (enc : TypeId × Value → H) : ∃ (w : World) (tape : Tape) (i : Input), w.os = os ∧ (w.forCall tape i).Shaped Tryd.prog ∧ i.vars = [] ∧ Input.okWide Tryd.prog (w.forCall tape i) .any w.heap.size 3 i ∧
      ((Rows.boundsTellSpec.pre enc Tryd.prog Tryd.f3 [] false (w.forCall tape i).memory i.args ∧ laidMetH Tryd.prog Rows.boundsTellRow.laid (w.forCall tape i).memory) ∧ sizedMet enc Tryd.prog Tryd.f3 (OpenSpec.ofChange Rows.boundsTellSpec) false (w.forCall tape i).memory i.args) ∧ Assume.holds {} Tryd.prog (lone (Frame.enter Tryd.prog 3 i.args .normal) [] (w.forCall tape i)) :=
  ChangeSpec.witness_shaped (enc := enc) (C := Tryd.checked) (os := os) (X := fun w _ => laidMetH Tryd.prog Rows.boundsTellRow.laid w) false ((World.holding Tryd.prog os ⟨#[], #[], []⟩).layVars Tryd.prog laid4) #[.slice none 0 0, .agg #[.int .i64 0, .int .i64 0, .int .i64 0, .int .i64 0, .int .i64 0, .int .i64 0, .int .i64 0, .int .i64 0, .int .i64 0, .int .i64 0, .int .i64 0, .int .i64 0, .int .i64 0]] 8 (wit_os4 os)
    (World.shaped_of_ZipB (by kernel_rfl) (by kernel_rfl)) (by kernel_rfl) (by kernel_rfl) (by kernel_rfl) (wit_met4 os _)

set_option maxRecDepth 100000 in
theorem btell_lifted (os : Os) (started : os.Started) (H : Type) (enc : TypeId × Value → H) :
    ReturnsInHanded {} Tryd.checked os 3 .any (fun w args => (Rows.boundsTellSpec.pre enc Tryd.prog Tryd.f3 [] false w args ∧ laidMetH Tryd.prog Rows.boundsTellRow.laid w) ∧ sizedMet enc Tryd.prog Tryd.f3 (OpenSpec.ofChange Rows.boundsTellSpec) false w args)
      (Rows.boundsTellSpec.post enc Tryd.prog Tryd.f3 false true false false) := by
  refine wrap started (by kernel_rfl) Tryd.func3 (btell_wit os H enc) ?_
  intro W base args ds gs before hval0 hW hsz hL hsh
  have hval : ∀ (j : Nat) t v, Tryd.f3.params[j]? = some t → args[j]? = some v → Value.okWide Tryd.prog W .any base t v := hval0
  have hW' := hW
  obtain ⟨p, q, hA0, hV, rfl, _, _⟩ := hW
  have hA : DataW.TrodAll enc Tryd.prog W 0 (fun _ => true) true Tryd.f3.params.toList args.toList ds p := hA0
  rw [Tryd.params3] at hA hval hsz
  obtain ⟨v0, v1, d0, d1, p0, p1, rfl, rfl, rfl, h0, h1⟩ := trodAll_two hA
  obtain ⟨rfl, rfl⟩ := trodVars_none hV
  obtain ⟨ao, cap, xs, rfl, hp, hc⟩ := open_ops (hval 0 22 v0 rfl rfl) h0 fun n hn => by
    have := List.all_eq_true.1 hsz n (DataW.weights_mem_each (j := 0) rfl rfl n hn)
    simpa using this
  obtain ⟨⟨t, rfl⟩, rfl⟩ := open_tab (hval 1 25 v1 rfl rfl) h1
  simp only [List.append_nil] at hW'
  refine (Bn.law_tell ao cap xs t W hp hc (env4 hL hsh)).mono fun e W' ⟨he, hb⟩ => ?_
  subst he
  refine ⟨_, rfl, _, _, _, [], p0 ++ [], [], hW', trodAll_mk1 (shut_bool Tryd.underlying4 _), ?_, rfl, hb.frame _, fun h => by cases h⟩
  rw [Tryd.params3]
  exact trodAll_mk2 (Below.trod laidOut (by kernel_rfl) (by rw [tySize]; decide) h0 hb fun x hx => by obtain ⟨fuel, hf⟩ := h0; exact DataW.trod_lt _ _ _ _ hf x hx) (Below.trod laidOut (by kernel_rfl) (by rw [tySize]; decide) h1 hb (fun x hx => by cases hx))

theorem btell_row : Rows.BoundsTellSaid :=
  OpenClaim.holds_of_wide 3 Tryd.f3 rfl rfl rfl rfl rfl rfl rfl ⟨rfl, rfl, rfl, rfl, rfl⟩ rfl rfl rfl rfl rfl (by kernel_rfl) Tryd.func3 (by kernel_rfl)
    (of_decide_eq_true (by kernel_rfl)) (by unfold Func.isWrapper; first | (rw [if_pos (by decide +kernel)]; kernel_rfl) | (rw [if_neg (by decide +kernel)]; exact ⟨rfl, rfl⟩))
    (fun os started H enc _ => btell_lifted os started H enc)

theorem btell_card : Rows.BoundsTellCardSaid :=
  Claim7.holds_tied_plain_at .later [] [.wider, .wider, .wider, .wider] true (true, "63c10f6e885fbb5fed7078d0b9e99c28fe114224e6d0e347a2ce98875c3d82eb") false btell_row (fun _ h => by cases h) (by kernel_rfl) (fun _ h => by cases h) boundsTell_row_tie rfl ⟨rfl, rfl⟩ (by kernel_rfl) rfl
    (fun f fn hf hfn => by
      obtain rfl : f = 3 := Option.some.inj ((show Tryd.prog.funcNamed "hayloft/hayloftlaw15.BoundsTell" = some 3 by kernel_rfl).symm.trans hf) |>.symm
      obtain rfl : fn = Tryd.f3 := (Option.some.inj (Tryd.func3.symm.trans hfn)).symm
      exact ⟨by kernel_rfl, fun j t ht => by
        rw [Tryd.params3] at ht
        have hm : t ∈ [22, 25] := by simpa using Array.mem_of_getElem? ht
        have hall : ([22, 25].all fun u => !Tryd.prog.wantsStandIn u) = true := by kernel_rfl
        exact (show Tryd.prog.wantsStandIn t = false by simpa using List.all_eq_true.1 hall t hm)⟩)
    (by kernel_rfl)
#print axioms btell_card
end Go.Proofs.YthdpgimdakmdgaaDoor.Cb
