/- What a plan's cycles tell of Rounds, and what a dependence asks at most: plain mathematics. Conditions: none. -/
import Derived.Test.YteccifanbgcakaaGreatDoorN27
import Derived.Test.YteccifanbgcakaaGreatDoorN28
import Derived.Test.YteccifanbgcakaaGreatDoorN12
import Derived.Test.YteccifanbgcakaaGreatDoorN13
namespace Go.Proofs.YteccifanbgcakaaGreatDoor.Bn
open Go.ChangeShapes Go.WideShapes Go.ChangeAt Go.RowKit
open _root_.Go.Proofs.YteccifanbgcakaaGreatDoor.Op _root_.Go.Proofs.YteccifanbgcakaaGreatDoor.So
open _root_.Go.Proofs.YteccifanbgcakaaGreatDoor.Dp (Ed lisE okL loopE EdOut EOwn erE loop_any lis_all pts_ok okL_okO ptsL ptsL_len eOwn_at)
open _root_.Go.Proofs.YteccifanbgcakaaGreatDoor.Tb (Tab TabAt Bnds ckR)
set_option maxRecDepth 20000

/-- A body's first error. -/
def rgE (t : Tab) (xs : List O) : Int := if t.ok = false then 20 else if 64 < xs.length then 3 else if xs.all okL = false then 30 else if huB t (cts xs) 4 = false then 21 else 0
theorem rg_ok {t : Tab} {xs : List O} (h : rgE t xs = 0) : t.ok = true ∧ xs.length ≤ 64 ∧ lisE t xs = 0 ∧ huB t (cts xs) 4 = true := by
  unfold rgE at h
  split at h
  · cases h
  · split at h
    · cases h
    · split at h
      · cases h
      · split at h
        · cases h
        · rename_i h1 h2 h3 h4
          have h1 : t.ok = true := by simpa using h1
          have h3 : xs.all okL = true := by simpa using h3
          refine ⟨h1, by omega, ?_, by simpa using h4⟩
          unfold lisE
          rw [if_neg (by rw [h1]; decide), if_neg (by omega), if_pos h3]
set_option maxHeartbeats 4000000 in
theorem ringOf_no (ao : Option Addr) (cap : Nat) (xs : List O) (t : Tab) (w : World) (h : OpsAt w ao xs) (hcap : xs.length ≤ cap) (hG : Bnds w) (he : ¬ rgE t xs = 0) :
    Calls Tryz.prog 36 #[.slice ao xs.length cap, t.val] w fun e w' => e = .returned (.tuple #[.slice none 0 0, .int .i64 (rgE t xs)]) ∧ Below w.heap.size w w' := by
  have HC : Hid (∀ W, Below w.heap.size w W → Calls Tryz.prog 67 #[t.val] W fun e w' => e = .returned (.int .i64 (ckR t)) ∧ Below W.heap.size W w') := fun W hb => Tb.check_any t W (hG.below hb hG.big)
  have HL : Hid (∀ W, Below w.heap.size w W → Calls Tryz.prog 20 #[.slice ao xs.length cap, t.val] W (EdOut W (lisE t xs) (erE t xs (loopE t xs)))) := fun W hb => loop_any ao cap xs t W (h.below hb) hcap (hG.below hb hG.big)
  have HU : Hid (∀ W, Below w.heap.size w W → Calls Tryz.prog 68 #[.slice ao xs.length cap, t.val] W fun e w' => e = .returned (.bool (huB t (cts xs) 4)) ∧ Below W.heap.size W w') := fun W hb => haveUnits_any ao cap xs t W (h.below hb)
  have hlen := h.len
  clear h hcap hG
  unfold EdOut at HL
  cases h1 : t.ok
  · have hr : rgE t xs = 20 := by unfold rgE; rw [if_pos h1]
    have hk : ckR t = 20 := by unfold ckR; rw [h1]; rfl
    rw [hr]
    rw [hk] at HC
    clear hr hk he h1 HL HU
    unfold Tab.val at *
    go_enter Tryz.func36, Tryz.ntmps36
    go_wp2_with (first
      | (go_at_call 67; refine Calls.mono (HC.out _ (by go_grown)) ?_; rintro e w1 ⟨rfl, hb⟩; have HT : Hid (Tq w w1 t) := Tq.start w t hb; clear hb HC))
    go_ret2
    exact ⟨rfl, HT.out.up⟩
  · have hk : ckR t = 0 := by unfold ckR; rw [h1]; rfl
    rw [hk] at HC
    clear hk
    by_cases h2 : 64 < xs.length
    · have hr : rgE t xs = 3 := by unfold rgE; rw [if_neg (by rw [h1]; decide), if_pos h2]
      have h2' : (64 : Int) < (xs.length : Int) := by omega
      rw [hr]
      clear hr he h1 h2 HL HU
      unfold Tab.val at *
      go_enter Tryz.func36, Tryz.ntmps36
      go_wp2_with (first
        | (go_at_call 67; refine Calls.mono (HC.out _ (by go_grown)) ?_; rintro e w1 ⟨rfl, hb⟩; have HT : Hid (Tq w w1 t) := Tq.start w t hb; clear hb HC))
      go_ret2
      exact ⟨rfl, HT.out.up⟩
    · have h2' : ¬ (64 : Int) < (xs.length : Int) := by omega
      cases h3 : xs.all okL
      · have hr : rgE t xs = 30 := by unfold rgE; rw [if_neg (by rw [h1]; decide), if_neg h2, if_pos h3]
        have hl : lisE t xs = 30 := by unfold lisE; rw [if_neg (by rw [h1]; decide), if_neg (by omega), if_neg (by rw [h3]; decide)]
        rw [hr]
        rw [hl] at HL
        clear hr hl he h1 h2 h3 HU
        generalize erE t xs (loopE t xs) = es at *
        unfold Tab.val at *
        go_enter Tryz.func36, Tryz.ntmps36
        go_wp2_with (first
          | (go_at_call 67; refine Calls.mono (HC.out _ (by go_grown)) ?_; rintro e w1 ⟨rfl, hb⟩; have HT : Hid (Tq w w1 t) := Tq.start w t hb; clear hb HC; have s1 := HT.out.t; have tu0 := s1.cu 0 (by decide); have tu1 := s1.cu 1 (by decide); have tu2 := s1.cu 2 (by decide); have tu3 := s1.cu 3 (by decide); have tl0 := s1.cl 0 (by decide); have tl1 := s1.cl 1 (by decide); have tl2 := s1.cl 2 (by decide); have tl3 := s1.cl 3 (by decide); have tb0 := s1.cb 0 (by decide); have tb1 := s1.cb 1 (by decide); have tb2 := s1.cb 2 (by decide); have tb3 := s1.cb 3 (by decide); have td := s1.cd; have tz := s1.lt; clear s1)
          | (go_at_call 20; refine Calls.mono (HL.out _ HT.out.up) ?_; rintro e w2 ⟨ea, ec, rfl, ho, hb⟩; have HT2 : Hid (Tq w w2 t) := HT.out.next hb; clear hb ho HL HT; clear tu0 tu1 tu2 tu3 tl0 tl1 tl2 tl3 tb0 tb1 tb2 tb3 td tz))
        go_ret2
        exact ⟨rfl, HT2.out.up⟩
      · have hl : lisE t xs = 0 := by unfold lisE; rw [if_neg (by rw [h1]; decide), if_neg (by omega), if_pos h3]
        have hu : huB t (cts xs) 4 = false := by
          cases e : huB t (cts xs) 4
          · rfl
          · exact absurd (by unfold rgE; rw [if_neg (by rw [h1]; decide), if_neg h2, if_neg (by rw [h3]; decide), if_neg (by rw [e]; decide)]) he
        have hr : rgE t xs = 21 := by unfold rgE; rw [if_neg (by rw [h1]; decide), if_neg h2, if_neg (by rw [h3]; decide), if_pos hu]
        rw [hr]
        rw [hl] at HL
        rw [hu] at HU
        clear hr hl he h1 h2 h3 hu
        generalize erE t xs (loopE t xs) = es at *
        unfold Tab.val at *
        go_enter Tryz.func36, Tryz.ntmps36
        go_wp2_with (first
          | (go_at_call 67; refine Calls.mono (HC.out _ (by go_grown)) ?_; rintro e w1 ⟨rfl, hb⟩; have HT : Hid (Tq w w1 t) := Tq.start w t hb; clear hb HC; have s1 := HT.out.t; have tu0 := s1.cu 0 (by decide); have tu1 := s1.cu 1 (by decide); have tu2 := s1.cu 2 (by decide); have tu3 := s1.cu 3 (by decide); have tl0 := s1.cl 0 (by decide); have tl1 := s1.cl 1 (by decide); have tl2 := s1.cl 2 (by decide); have tl3 := s1.cl 3 (by decide); have tb0 := s1.cb 0 (by decide); have tb1 := s1.cb 1 (by decide); have tb2 := s1.cb 2 (by decide); have tb3 := s1.cb 3 (by decide); have td := s1.cd; have tz := s1.lt; clear s1)
          | (go_at_call 20; refine Calls.mono (HL.out _ HT.out.up) ?_; rintro e w2 ⟨ea, ec, rfl, ho, hb⟩; have HT2 : Hid (Tq w w2 t) := HT.out.next hb; clear hb ho HL HT; clear tu0 tu1 tu2 tu3 tl0 tl1 tl2 tl3 tb0 tb1 tb2 tb3 td tz; have s1 := HT2.out.t; have tu0 := s1.cu 0 (by decide); have tu1 := s1.cu 1 (by decide); have tu2 := s1.cu 2 (by decide); have tu3 := s1.cu 3 (by decide); have tl0 := s1.cl 0 (by decide); have tl1 := s1.cl 1 (by decide); have tl2 := s1.cl 2 (by decide); have tl3 := s1.cl 3 (by decide); have tb0 := s1.cb 0 (by decide); have tb1 := s1.cb 1 (by decide); have tb2 := s1.cb 2 (by decide); have tb3 := s1.cb 3 (by decide); have td := s1.cd; have tz := s1.lt; clear s1)
          | (go_at_call 68; refine Calls.mono (HU.out _ HT2.out.up) ?_; rintro e w3 ⟨rfl, hb⟩; have HT3 : Hid (Tq w w3 t) := HT2.out.next hb; clear hb HU HT2; clear tu0 tu1 tu2 tu3 tl0 tl1 tl2 tl3 tb0 tb1 tb2 tb3 td tz))
        go_ret2
        exact ⟨rfl, HT3.out.up⟩
theorem rowB {W : World} {B B' c : Nat} {a : Option Addr} {es : List Ed} (h : EOwn B W a c es) (hB : B' ≤ B) : EOwn B' W a c es := by
  obtain ⟨h1, h2⟩ := h
  rcases h2 with h0 | ⟨g, cap, cur, e1, e2, e3⟩
  · exact ⟨h1, .inl h0⟩
  · exact ⟨h1, .inr ⟨g, cap, cur, e1, by omega, e3⟩⟩
set_option maxHeartbeats 4000000 in
theorem ringOf_ok (ao : Option Addr) (cap : Nat) (xs : List O) (t : Tab) (w : World) (h : OpsAt w ao xs) (hcap : xs.length ≤ cap) (hG : Bnds w) (he : rgE t xs = 0) :
    Calls Tryz.prog 36 #[.slice ao xs.length cap, t.val] w (EdOut w 0 (loopE t xs)) := by
  obtain ⟨h1, h2, h3, h4⟩ := rg_ok he
  have HC : Hid (∀ W, Below w.heap.size w W → Calls Tryz.prog 67 #[t.val] W fun e w' => e = .returned (.int .i64 0) ∧ Below W.heap.size W w') := fun W hb => by
    have := Tb.check_any t W (hG.below hb hG.big)
    rw [show ckR t = 0 by unfold ckR; rw [h1]; rfl] at this
    exact this
  have HL : Hid (∀ W, Below w.heap.size w W → Calls Tryz.prog 20 #[.slice ao xs.length cap, t.val] W (EdOut W 0 (loopE t xs))) := fun W hb => by
    have := loop_any ao cap xs t W (h.below hb) hcap (hG.below hb hG.big)
    unfold erE at this
    rw [if_pos h3, h3] at this
    exact this
  have HU : Hid (∀ W, Below w.heap.size w W → Calls Tryz.prog 68 #[.slice ao xs.length cap, t.val] W fun e w' => e = .returned (.bool true) ∧ Below W.heap.size W w') := fun W hb => by
    have := haveUnits_any ao cap xs t W (h.below hb)
    rw [h4] at this
    exact this
  have hlen := h.len
  have h2' : ¬ (64 : Int) < (xs.length : Int) := by omega
  clear h hcap hG he h1 h2 h3 h4
  unfold EdOut at HL ⊢
  generalize loopE t xs = es at *
  unfold Tab.val at *
  go_enter Tryz.func36, Tryz.ntmps36
  go_wp2_with (first
    | (go_at_call 67; refine Calls.mono (HC.out _ (by go_grown)) ?_; rintro e w1 ⟨rfl, hb⟩; have HT : Hid (Tq w w1 t) := Tq.start w t hb; clear hb HC; have s1 := HT.out.t; have tu0 := s1.cu 0 (by decide); have tu1 := s1.cu 1 (by decide); have tu2 := s1.cu 2 (by decide); have tu3 := s1.cu 3 (by decide); have tl0 := s1.cl 0 (by decide); have tl1 := s1.cl 1 (by decide); have tl2 := s1.cl 2 (by decide); have tl3 := s1.cl 3 (by decide); have tb0 := s1.cb 0 (by decide); have tb1 := s1.cb 1 (by decide); have tb2 := s1.cb 2 (by decide); have tb3 := s1.cb 3 (by decide); have td := s1.cd; have tz := s1.lt; clear s1)
    | (go_at_call 20; refine Calls.mono (HL.out _ HT.out.up) ?_; rintro e w2 ⟨ea, ec, rfl, ho, hb⟩; have HT2 : Hid (Tq w w2 t ∧ EOwn w1.heap.size w2 ea ec es ∧ w.heap.size ≤ w1.heap.size) := ⟨HT.out.next hb, ho, HT.out.up.size⟩; clear hb ho HL HT; clear tu0 tu1 tu2 tu3 tl0 tl1 tl2 tl3 tb0 tb1 tb2 tb3 td tz; have s1 := HT2.out.1.t; have tu0 := s1.cu 0 (by decide); have tu1 := s1.cu 1 (by decide); have tu2 := s1.cu 2 (by decide); have tu3 := s1.cu 3 (by decide); have tl0 := s1.cl 0 (by decide); have tl1 := s1.cl 1 (by decide); have tl2 := s1.cl 2 (by decide); have tl3 := s1.cl 3 (by decide); have tb0 := s1.cb 0 (by decide); have tb1 := s1.cb 1 (by decide); have tb2 := s1.cb 2 (by decide); have tb3 := s1.cb 3 (by decide); have td := s1.cd; have tz := s1.lt; clear s1)
    | (go_at_call 68; refine Calls.mono (HU.out _ HT2.out.1.up) ?_; rintro e w3 ⟨rfl, hb⟩; have HT3 : Hid (Tq w w3 t ∧ EOwn w1.heap.size w3 ea ec es ∧ w.heap.size ≤ w1.heap.size) := ⟨HT2.out.1.next hb, HT2.out.2.1.up hb, HT2.out.2.2⟩; clear hb HU HT2; clear tu0 tu1 tu2 tu3 tl0 tl1 tl2 tl3 tb0 tb1 tb2 tb3 td tz))
  go_ret2
  exact ⟨ea, ec, rfl, rowB HT3.out.2.1 HT3.out.2.2, HT3.out.1.up⟩
end Go.Proofs.YteccifanbgcakaaGreatDoor.Bn

namespace Go.Proofs.YteccifanbgcakaaGreatDoor.Bn
open Go.ChangeShapes Go.WideShapes Go.ChangeAt Go.RowKit
open _root_.Go.Proofs.YteccifanbgcakaaGreatDoor.Op _root_.Go.Proofs.YteccifanbgcakaaGreatDoor.So
open _root_.Go.Proofs.YteccifanbgcakaaGreatDoor.Dp (Ed Rw Pt PtsOk lisE okL loopE EdOut EOwn erE loop_any lis_all pts_ok okL_okO ptsL ptsL_len eOwn_at edL pairE pairE_mem rowW rowA withinE acrossE cat_mem withinE_len acrossE_len)
open _root_.Go.Proofs.YteccifanbgcakaaGreatDoor.Tb (Tab TabAt Bnds ckR)
set_option maxRecDepth 20000

theorem edL_d {e x : Ed} {rs : List Rw} (h : x ∈ edL e rs) : x.d = e.d := by
  unfold edL at h
  obtain ⟨r, hr, hx⟩ := List.mem_flatMap.1 h
  split at hx
  · rw [List.mem_singleton.1 hx]
  · cases hx
theorem loopE_el {t : Tab} {xs : List O} (hp : PtsOk (ptsL t xs)) : EL xs.length (loopE t xs) := fun x hx => by
  have hl := ptsL_len t xs
  unfold loopE at hx
  rcases List.mem_append.1 hx with hx | hx
  · obtain ⟨j, hj, hx⟩ := cat_mem.1 hx
    obtain ⟨i, hi, hx⟩ := cat_mem.1 hx
    obtain ⟨h1, h2, h3, h4⟩ := pairE_mem hp (by omega) (by omega) hx
    have hd : x.d = 0 := edL_d hx
    exact ⟨by omega, by omega, by omega, by omega, h3, h4, .inl ⟨hd, by omega⟩⟩
  · obtain ⟨j, hj, hx⟩ := cat_mem.1 hx
    obtain ⟨i, hi, hx⟩ := cat_mem.1 hx
    obtain ⟨h1, h2, h3, h4⟩ := pairE_mem hp (by omega) (by omega) hx
    have hd : x.d = 1 := edL_d hx
    exact ⟨by omega, by omega, by omega, by omega, h3, h4, .inr hd⟩
theorem loopE_len {t : Tab} {xs : List O} (hn : xs.length ≤ 1024) : (loopE t xs).length ≤ 100000000 := by
  have hl := ptsL_len t xs
  have h1 := withinE_len xs (ptsL t xs) xs.length hn
  have h2 := acrossE_len xs (ptsL t xs) xs.length (by omega)
  unfold loopE
  rw [List.length_append]
  omega
theorem es_of {B c : Nat} {w : World} {a : Option Addr} {es : List Ed} (h : EOwn B w a c es) : Es w a es := by
  refine ⟨fun x hx => ?_, fun k hk => ?_⟩
  · subst hx
    have h0 : w.ownsRow B 51 5 (.slice (some x) es.length c) es.length (Dp.ecells es) := h
    exact (h0.lt x.block rfl).2
  · obtain ⟨b, h1, h2, h3, h4⟩ := eOwn_at h hk
    exact ⟨b, h1, h2, h4⟩
/-- The search of Rounds can be made. -/
def Rdy (n : Nat) (es : List Ed) : Prop := Srch (fun q => inT (stp q es) n) ∧ ∀ q : Int, 0 ≤ q → q ≤ 512 → Fit n (stp q es)
theorem rdy_of {n : Nat} {es : List Ed} (hE : EL n es) (hn : n ≤ 64) : Rdy n es := ⟨srch_of hE hn, fun _ h0 h1 => fit_of hE hn h0 h1⟩
/-- What the three functions answer. -/
def unE (t : Tab) (xs : List O) : Int := if rgE t xs = 0 then buI t (cts xs) 4 else 0
def roE (t : Tab) (xs : List O) : Int := if rgE t xs = 0 then rndE xs.length (loopE t xs) else 0
def leE (t : Tab) (xs : List O) : Int := if rgE t xs = 0 then max (max (buI t (cts xs) 4) (rndE xs.length (loopE t xs))) (1 + t.d) else 0
theorem loopE_ok {w : World} {ao : Option Addr} {t : Tab} {xs : List O} (h : OpsAt w ao xs) (he : rgE t xs = 0) : EL xs.length (loopE t xs) := by
  obtain ⟨h1, h2, h3, h4⟩ := rg_ok he
  exact loopE_el (pts_ok t xs (fun o ho => ⟨h.ok o ho, okL_okO ((lis_all h3).2.2 o ho)⟩) h1)
set_option maxHeartbeats 4000000 in
theorem units_any (ao : Option Addr) (cap : Nat) (xs : List O) (t : Tab) (w : World) (h : OpsAt w ao xs) (hcap : xs.length ≤ cap) (hG : Bnds w) :
    Calls Tryz.prog 22 #[.slice ao xs.length cap, t.val] w fun e w' => e = .returned (.tuple #[.int .i64 (unE t xs), .int .i64 (rgE t xs)]) ∧ Below w.heap.size w w' := by
  unfold unE
  by_cases he : rgE t xs = 0
  · obtain ⟨h1, h2, h3, h4⟩ := rg_ok he
    have HR : Hid (∀ W, Below w.heap.size w W → Calls Tryz.prog 36 #[.slice ao xs.length cap, t.val] W (EdOut W 0 (loopE t xs))) := fun W hb => ringOf_ok ao cap xs t W (h.below hb) hcap (hG.below hb hG.big) he
    have HB : Hid (∀ W, Below w.heap.size w W → Calls Tryz.prog 37 #[.slice ao xs.length cap, t.val] W fun e w' => e = .returned (.int .i64 (buI t (cts xs) 4)) ∧ Below W.heap.size W w') := fun W hb => byUnits_any ao cap xs t W (h.below hb) h2 h1 h4
    rw [if_pos he, he]
    clear h hcap hG he h1 h2 h3 h4
    unfold EdOut at HR
    generalize loopE t xs = es at *
    generalize buI t (cts xs) 4 = bu at *
    unfold Tab.val at *
    go_enter Tryz.func22, Tryz.ntmps22
    go_wp2_with (first
      | (go_at_call 36; refine Calls.mono (HR.out _ (by go_grown)) ?_; rintro e w1 ⟨ea, ec, rfl, ho, hb⟩; have HT : Hid (Tq w w1 t) := Tq.start w t hb; clear hb ho HR; have s1 := HT.out.t; have tu0 := s1.cu 0 (by decide); have tu1 := s1.cu 1 (by decide); have tu2 := s1.cu 2 (by decide); have tu3 := s1.cu 3 (by decide); have tl0 := s1.cl 0 (by decide); have tl1 := s1.cl 1 (by decide); have tl2 := s1.cl 2 (by decide); have tl3 := s1.cl 3 (by decide); have tb0 := s1.cb 0 (by decide); have tb1 := s1.cb 1 (by decide); have tb2 := s1.cb 2 (by decide); have tb3 := s1.cb 3 (by decide); have td := s1.cd; have tz := s1.lt; clear s1)
      | (go_at_call 37; refine Calls.mono (HB.out _ HT.out.up) ?_; rintro e w2 ⟨rfl, hb⟩; have HT2 : Hid (Tq w w2 t) := HT.out.next hb; clear hb HB HT; clear tu0 tu1 tu2 tu3 tl0 tl1 tl2 tl3 tb0 tb1 tb2 tb3 td tz))
    go_ret2
    exact ⟨rfl, HT2.out.up⟩
  · have HR : Hid (∀ W, Below w.heap.size w W → Calls Tryz.prog 36 #[.slice ao xs.length cap, t.val] W fun e w' => e = .returned (.tuple #[.slice none 0 0, .int .i64 (rgE t xs)]) ∧ Below W.heap.size W w') := fun W hb => ringOf_no ao cap xs t W (h.below hb) hcap (hG.below hb hG.big) he
    rw [if_neg he]
    have he2 : (rgE t xs != 0) = true := by simpa using he
    clear h hcap hG
    generalize rgE t xs = er at *
    unfold Tab.val at *
    go_enter Tryz.func22, Tryz.ntmps22
    go_wp2_with (first
      | (go_at_call 36; refine Calls.mono (HR.out _ (by go_grown)) ?_; rintro e w1 ⟨rfl, hb⟩; have HT : Hid (Tq w w1 t) := Tq.start w t hb; clear hb HR))
    go_ret2
    exact ⟨rfl, HT.out.up⟩
set_option maxHeartbeats 4000000 in
theorem least_any (ao : Option Addr) (cap : Nat) (xs : List O) (t : Tab) (w : World) (h : OpsAt w ao xs) (hcap : xs.length ≤ cap) (hG : Bnds w) :
    Calls Tryz.prog 16 #[.slice ao xs.length cap, t.val] w fun e w' => e = .returned (.tuple #[.int .i64 (leE t xs), .int .i64 (rgE t xs)]) ∧ Below w.heap.size w w' := by
  unfold leE
  by_cases he : rgE t xs = 0
  · obtain ⟨h1, h2, h3, h4⟩ := rg_ok he
    have hE := loopE_ok h he
    have hR := rdy_of hE h2
    have HR : Hid (∀ W, Below w.heap.size w W → Calls Tryz.prog 36 #[.slice ao xs.length cap, t.val] W (EdOut W 0 (loopE t xs))) := fun W hb => ringOf_ok ao cap xs t W (h.below hb) hcap (hG.below hb hG.big) he
    have HB : Hid (∀ W, Below w.heap.size w W → Calls Tryz.prog 37 #[.slice ao xs.length cap, t.val] W fun e w' => e = .returned (.int .i64 (buI t (cts xs) 4)) ∧ Below W.heap.size W w') := fun W hb => byUnits_any ao cap xs t W (h.below hb) h2 h1 h4
    have HD : Hid (∀ W a c, Es W a (loopE t xs) → Calls Tryz.prog 38 #[.int .i64 xs.length, .slice a (loopE t xs).length c] W fun e w' => e = .returned (.int .i64 (rndE xs.length (loopE t xs))) ∧ Below W.heap.size W w') := fun W a c hs => byRounds_any xs.length h2 a c _ _ rfl W hs hE (loopE_len (by omega)) hR.1 hR.2
    have ht := (tab_in h1).1
    rw [if_pos he, he]
    have hlen := h.len
    clear h hcap hG he h1 h2 h3 h4 hR hE
    unfold EdOut at HR
    generalize rndE xs.length (loopE t xs) = ro at *
    generalize loopE t xs = es at *
    generalize buI t (cts xs) 4 = bu at *
    unfold Tab.val at *
    go_enter Tryz.func16, Tryz.ntmps16
    go_upto_region 4 with (first
      | (go_at_call 36; refine Calls.mono (HR.out _ (by go_grown)) ?_; rintro e w1 ⟨ea, ec, rfl, ho, hb⟩; have HT : Hid (Tq w w1 t ∧ Es w1 ea es) := ⟨Tq.start w t hb, es_of ho⟩; clear hb ho HR))
    have HT2 : Hid (∀ x : Wd (Below w1.heap.size w1), Tq w x.w t) := fun x => HT.out.1.next x.ok
    have tu0 : ∀ x : Wd (Below w1.heap.size w1), x.w.cell? ⟨w.heap.size, 0, none⟩ = some (.int .i64 (t.u 0)) := fun x => (HT2.out x).t.cu 0 (by decide)
    have tu1 : ∀ x : Wd (Below w1.heap.size w1), x.w.cell? ⟨w.heap.size, 1, none⟩ = some (.int .i64 (t.u 1)) := fun x => (HT2.out x).t.cu 1 (by decide)
    have tu2 : ∀ x : Wd (Below w1.heap.size w1), x.w.cell? ⟨w.heap.size, 2, none⟩ = some (.int .i64 (t.u 2)) := fun x => (HT2.out x).t.cu 2 (by decide)
    have tu3 : ∀ x : Wd (Below w1.heap.size w1), x.w.cell? ⟨w.heap.size, 3, none⟩ = some (.int .i64 (t.u 3)) := fun x => (HT2.out x).t.cu 3 (by decide)
    have tl0 : ∀ x : Wd (Below w1.heap.size w1), x.w.cell? ⟨w.heap.size, 4, none⟩ = some (.int .i64 (t.l 0)) := fun x => (HT2.out x).t.cl 0 (by decide)
    have tl1 : ∀ x : Wd (Below w1.heap.size w1), x.w.cell? ⟨w.heap.size, 5, none⟩ = some (.int .i64 (t.l 1)) := fun x => (HT2.out x).t.cl 1 (by decide)
    have tl2 : ∀ x : Wd (Below w1.heap.size w1), x.w.cell? ⟨w.heap.size, 6, none⟩ = some (.int .i64 (t.l 2)) := fun x => (HT2.out x).t.cl 2 (by decide)
    have tl3 : ∀ x : Wd (Below w1.heap.size w1), x.w.cell? ⟨w.heap.size, 7, none⟩ = some (.int .i64 (t.l 3)) := fun x => (HT2.out x).t.cl 3 (by decide)
    have tb0 : ∀ x : Wd (Below w1.heap.size w1), x.w.cell? ⟨w.heap.size, 8, none⟩ = some (.int .i64 (t.b 0)) := fun x => (HT2.out x).t.cb 0 (by decide)
    have tb1 : ∀ x : Wd (Below w1.heap.size w1), x.w.cell? ⟨w.heap.size, 9, none⟩ = some (.int .i64 (t.b 1)) := fun x => (HT2.out x).t.cb 1 (by decide)
    have tb2 : ∀ x : Wd (Below w1.heap.size w1), x.w.cell? ⟨w.heap.size, 10, none⟩ = some (.int .i64 (t.b 2)) := fun x => (HT2.out x).t.cb 2 (by decide)
    have tb3 : ∀ x : Wd (Below w1.heap.size w1), x.w.cell? ⟨w.heap.size, 11, none⟩ = some (.int .i64 (t.b 3)) := fun x => (HT2.out x).t.cb 3 (by decide)
    have td : ∀ x : Wd (Below w1.heap.size w1), x.w.cell? ⟨w.heap.size, 12, none⟩ = some (.int .i64 t.d) := fun x => (HT2.out x).t.cd
    have HB2 : Hid (∀ x : Wd (Below w1.heap.size w1), Calls Tryz.prog 37 #[.slice ao xs.length cap, .agg #[.int .i64 (t.u 0), .int .i64 (t.u 1), .int .i64 (t.u 2), .int .i64 (t.u 3), .int .i64 (t.l 0), .int .i64 (t.l 1), .int .i64 (t.l 2), .int .i64 (t.l 3), .int .i64 (t.b 0), .int .i64 (t.b 1), .int .i64 (t.b 2), .int .i64 (t.b 3), .int .i64 t.d]] x.w fun e w' => e = .returned (.int .i64 bu) ∧ Below x.w.heap.size x.w w') := fun x => HB.out _ (HT2.out x).up
    have HD2 : Hid (∀ x : Wd (Below w1.heap.size w1), Calls Tryz.prog 38 #[.int .i64 xs.length, .slice ea es.length ec] x.w fun e w' => e = .returned (.int .i64 ro) ∧ Below x.w.heap.size x.w w') := fun x => HD.out _ _ _ (HT.out.2.up x.ok)
    haveI inst : Nonempty (Wd (Below w1.heap.size w1)) := ⟨⟨w1, Below.refl _ _⟩⟩
    clear HB HD
    refine wp_region_in (Below w1.heap.size w1) (by kernel_rfl) (by kernel_rfl) ((Below.refl _ _).drew) ?_
    repeat (first | go_big_quiet_step ((first | (go_at_call 37; exact calls_in (Nat.le_refl _) _ (HB2.out _)) | (go_at_call 38; exact calls_in (Nat.le_refl _) _ (HD2.out _)))))
    refine wpQuiet_nil ?_
    rintro _ ⟨x, rfl⟩
    have HQ2 : Hid (Tq w x.w t) := HT2.out x
    by_cases c1 : bu < ro
    · by_cases c2 : ro < 1 + t.d
      · have HM : Hid (max bu (max ro (1 + t.d)) = 1 + t.d) := by show max bu (max ro (1 + t.d)) = 1 + t.d; omega
        go_wp2_with fail
        go_ret2
        exact ⟨by rw [HM.out]; rfl, HQ2.out.up⟩
      · have HM : Hid (max bu (max ro (1 + t.d)) = ro) := by show max bu (max ro (1 + t.d)) = ro; omega
        go_wp2_with fail
        go_ret2
        exact ⟨by rw [HM.out]; rfl, HQ2.out.up⟩
    · by_cases c2 : bu < 1 + t.d
      · have HM : Hid (max bu (max ro (1 + t.d)) = 1 + t.d) := by show max bu (max ro (1 + t.d)) = 1 + t.d; omega
        go_wp2_with fail
        go_ret2
        exact ⟨by rw [HM.out]; rfl, HQ2.out.up⟩
      · have HM : Hid (max bu (max ro (1 + t.d)) = bu) := by show max bu (max ro (1 + t.d)) = bu; omega
        go_wp2_with fail
        go_ret2
        exact ⟨by rw [HM.out]; rfl, HQ2.out.up⟩
  · have HR : Hid (∀ W, Below w.heap.size w W → Calls Tryz.prog 36 #[.slice ao xs.length cap, t.val] W fun e w' => e = .returned (.tuple #[.slice none 0 0, .int .i64 (rgE t xs)]) ∧ Below W.heap.size W w') := fun W hb => ringOf_no ao cap xs t W (h.below hb) hcap (hG.below hb hG.big) he
    rw [if_neg he]
    have he2 : (rgE t xs != 0) = true := by simpa using he
    clear h hcap hG
    generalize rgE t xs = er at *
    unfold Tab.val at *
    go_enter Tryz.func16, Tryz.ntmps16
    go_wp2_with (first
      | (go_at_call 36; refine Calls.mono (HR.out _ (by go_grown)) ?_; rintro e w1 ⟨rfl, hb⟩; have HT : Hid (Tq w w1 t) := Tq.start w t hb; clear hb HR))
    go_ret2
    exact ⟨rfl, HT.out.up⟩
end Go.Proofs.YteccifanbgcakaaGreatDoor.Bn

namespace Go.Proofs.YteccifanbgcakaaGreatDoor.Bn
open _root_.Go.Proofs.YteccifanbgcakaaGreatDoor.Op
open _root_.Go.Proofs.YteccifanbgcakaaGreatDoor.Dp
open _root_.Go.Proofs.YteccifanbgcakaaGreatDoor.Tb (Tab)
set_option maxRecDepth 20000

/-- Cycles that keep all dependences, a round every E cycles. -/
def Kp (es : List Ed) (C : Nat → Int) (E : Int) : Prop := ∀ e ∈ es, C e.f.toNat + e.l ≤ C e.t.toNat + e.d * E
/-- With rounds further apart dependences are still kept. -/
theorem Kp.more {n : Nat} {es : List Ed} (hE : EL n es) {C : Nat → Int} {E : Int} (h : Kp es C E) {D : Int} (hD : E ≤ D) : Kp es C D := fun e hm => by
  have h1 := h e hm
  rcases (hE e hm).d with ⟨e1, -⟩ | e1
  · rw [e1] at h1 ⊢; omega
  · rw [e1] at h1 ⊢; omega
end Go.Proofs.YteccifanbgcakaaGreatDoor.Bn
