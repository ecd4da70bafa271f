/- Package bounds: a body's dependences, or its first error (ringOf), read off the program by the walk. Conditions: the list lies in memory, the variables as the program lays them. -/
import Derived.Test.YthdpgimdakmdgaaDoorZh
import Derived.Test.YthdpgimdakmdgaaDoorZf
import Derived.Test.YthdpgimdakmdgaaDoorEl
import Derived.Test.YthdpgimdakmdgaaDoorHm
namespace Go.Proofs.YthdpgimdakmdgaaDoor.Bn
open Go.ChangeShapes Go.WideShapes Go.ChangeAt Go.RowKit
open _root_.Go.Proofs.YthdpgimdakmdgaaDoor.Op _root_.Go.Proofs.YthdpgimdakmdgaaDoor.So
open _root_.Go.Proofs.YthdpgimdakmdgaaDoor.Dp (Ed lisE okL loopE EdOut EOwn erE loop_any lis_all pts_ok okL_okO ptsL ptsL_len eOwn_at)
open _root_.Go.Proofs.YthdpgimdakmdgaaDoor.Tb (Tab TabAt Bnds ckR)
set_option maxRecDepth 20000

/-- A body's first error. -/
def rgE (t : Tab) (xs : List O) : Int := if t.ok = false then 20 else if 64 < xs.length then 3 else if xs.all okL = false then 30 else if huB t (cts xs) 4 = false then 21 else 0
theorem rg_ok {t : Tab} {xs : List O} (h : rgE t xs = 0) : t.ok = true ∧ xs.length ≤ 64 ∧ lisE t xs = 0 ∧ huB t (cts xs) 4 = true := by
  unfold rgE at h
  split at h
  · cases h
  · split at h
    · cases h
    · split at h
      · cases h
      · split at h
        · cases h
        · rename_i h1 h2 h3 h4
          have h1 : t.ok = true := by simpa using h1
          have h3 : xs.all okL = true := by simpa using h3
          refine ⟨h1, by omega, ?_, by simpa using h4⟩
          unfold lisE
          rw [if_neg (by rw [h1]; decide), if_neg (by omega), if_pos h3]
/-- Where ringOf has come to: its table in a box. -/
abbrev Bx (w W : World) (t : Tab) : Prop := Tq w W t
set_option maxHeartbeats 4000000 in
theorem ringOf_no (ao : Option Addr) (cap : Nat) (xs : List O) (t : Tab) (w : World) (h : OpsAt w ao xs) (hcap : xs.length ≤ cap) (hG : Bnds w) (he : ¬ rgE t xs = 0) :
    Calls Tryd.prog 15 #[.slice ao xs.length cap, t.val] w fun e w' => e = .returned (.tuple #[.slice none 0 0, .int .i64 (rgE t xs)]) ∧ Below w.heap.size w w' := by
  have HC : Hid (∀ W, Below w.heap.size w W → Calls Tryd.prog 26 #[t.val] W fun e w' => e = .returned (.int .i64 (ckR t)) ∧ Below W.heap.size W w') := fun W hb => Tb.check_any t W (hG.below hb hG.big)
  have HL : Hid (∀ W, Below w.heap.size w W → Calls Tryd.prog 13 #[.slice ao xs.length cap, t.val] W (EdOut W (lisE t xs) (erE t xs (loopE t xs)))) := fun W hb => loop_any ao cap xs t W (h.below hb) hcap (hG.below hb hG.big)
  have HU : Hid (∀ W, Below w.heap.size w W → Calls Tryd.prog 27 #[.slice ao xs.length cap, t.val] W fun e w' => e = .returned (.bool (huB t (cts xs) 4)) ∧ Below W.heap.size W w') := fun W hb => haveUnits_any ao cap xs t W (h.below hb)
  have hlen := h.len
  clear h hcap hG
  unfold EdOut at HL
  cases h1 : t.ok
  · have hr : rgE t xs = 20 := by unfold rgE; rw [if_pos h1]
    have hk : ckR t = 20 := by unfold ckR; rw [h1]; rfl
    rw [hr]
    rw [hk] at HC
    clear hr hk he h1 HL HU
    unfold Tab.val at *
    go_enter Tryd.func15, Tryd.ntmps15
    go_wp2_with (first
      | (go_at_call 26; refine Calls.mono (HC.out _ (by go_grown)) ?_; rintro e w1 ⟨rfl, hb⟩; have HT : Hid (Tq w w1 t) := Tq.start w t hb; clear hb HC))
    go_ret2
    exact ⟨rfl, HT.out.up⟩
  · have hk : ckR t = 0 := by unfold ckR; rw [h1]; rfl
    rw [hk] at HC
    clear hk
    by_cases h2 : 64 < xs.length
    · have hr : rgE t xs = 3 := by unfold rgE; rw [if_neg (by rw [h1]; decide), if_pos h2]
      have h2' : (64 : Int) < (xs.length : Int) := by omega
      rw [hr]
      clear hr he h1 h2 HL HU
      unfold Tab.val at *
      go_enter Tryd.func15, Tryd.ntmps15
      go_wp2_with (first
        | (go_at_call 26; refine Calls.mono (HC.out _ (by go_grown)) ?_; rintro e w1 ⟨rfl, hb⟩; have HT : Hid (Tq w w1 t) := Tq.start w t hb; clear hb HC))
      go_ret2
      exact ⟨rfl, HT.out.up⟩
    · have h2' : ¬ (64 : Int) < (xs.length : Int) := by omega
      cases h3 : xs.all okL
      · have hr : rgE t xs = 30 := by unfold rgE; rw [if_neg (by rw [h1]; decide), if_neg h2, if_pos h3]
        have hl : lisE t xs = 30 := by unfold lisE; rw [if_neg (by rw [h1]; decide), if_neg (by omega), if_neg (by rw [h3]; decide)]
        rw [hr]
        rw [hl] at HL
        clear hr hl he h1 h2 h3 HU
        generalize erE t xs (loopE t xs) = es at *
        unfold Tab.val at *
        go_enter Tryd.func15, Tryd.ntmps15
        go_wp2_with (first
          | (go_at_call 26; refine Calls.mono (HC.out _ (by go_grown)) ?_; rintro e w1 ⟨rfl, hb⟩; have HT : Hid (Tq w w1 t) := Tq.start w t hb; clear hb HC; have s1 := HT.out.t; have tu0 := s1.cu 0 (by decide); have tu1 := s1.cu 1 (by decide); have tu2 := s1.cu 2 (by decide); have tu3 := s1.cu 3 (by decide); have tl0 := s1.cl 0 (by decide); have tl1 := s1.cl 1 (by decide); have tl2 := s1.cl 2 (by decide); have tl3 := s1.cl 3 (by decide); have tb0 := s1.cb 0 (by decide); have tb1 := s1.cb 1 (by decide); have tb2 := s1.cb 2 (by decide); have tb3 := s1.cb 3 (by decide); have td := s1.cd; have tz := s1.lt; clear s1)
          | (go_at_call 13; refine Calls.mono (HL.out _ HT.out.up) ?_; rintro e w2 ⟨ea, ec, rfl, ho, hb⟩; have HT2 : Hid (Tq w w2 t) := HT.out.next hb; clear hb ho HL HT; clear tu0 tu1 tu2 tu3 tl0 tl1 tl2 tl3 tb0 tb1 tb2 tb3 td tz))
        go_ret2
        exact ⟨rfl, HT2.out.up⟩
      · have hl : lisE t xs = 0 := by unfold lisE; rw [if_neg (by rw [h1]; decide), if_neg (by omega), if_pos h3]
        have hu : huB t (cts xs) 4 = false := by
          cases e : huB t (cts xs) 4
          · rfl
          · exact absurd (by unfold rgE; rw [if_neg (by rw [h1]; decide), if_neg h2, if_neg (by rw [h3]; decide), if_neg (by rw [e]; decide)]) he
        have hr : rgE t xs = 21 := by unfold rgE; rw [if_neg (by rw [h1]; decide), if_neg h2, if_neg (by rw [h3]; decide), if_pos hu]
        rw [hr]
        rw [hl] at HL
        rw [hu] at HU
        clear hr hl he h1 h2 h3 hu
        generalize erE t xs (loopE t xs) = es at *
        unfold Tab.val at *
        go_enter Tryd.func15, Tryd.ntmps15
        go_wp2_with (first
          | (go_at_call 26; refine Calls.mono (HC.out _ (by go_grown)) ?_; rintro e w1 ⟨rfl, hb⟩; have HT : Hid (Tq w w1 t) := Tq.start w t hb; clear hb HC; have s1 := HT.out.t; have tu0 := s1.cu 0 (by decide); have tu1 := s1.cu 1 (by decide); have tu2 := s1.cu 2 (by decide); have tu3 := s1.cu 3 (by decide); have tl0 := s1.cl 0 (by decide); have tl1 := s1.cl 1 (by decide); have tl2 := s1.cl 2 (by decide); have tl3 := s1.cl 3 (by decide); have tb0 := s1.cb 0 (by decide); have tb1 := s1.cb 1 (by decide); have tb2 := s1.cb 2 (by decide); have tb3 := s1.cb 3 (by decide); have td := s1.cd; have tz := s1.lt; clear s1)
          | (go_at_call 13; refine Calls.mono (HL.out _ HT.out.up) ?_; rintro e w2 ⟨ea, ec, rfl, ho, hb⟩; have HT2 : Hid (Tq w w2 t) := HT.out.next hb; clear hb ho HL HT; clear tu0 tu1 tu2 tu3 tl0 tl1 tl2 tl3 tb0 tb1 tb2 tb3 td tz; have s1 := HT2.out.t; have tu0 := s1.cu 0 (by decide); have tu1 := s1.cu 1 (by decide); have tu2 := s1.cu 2 (by decide); have tu3 := s1.cu 3 (by decide); have tl0 := s1.cl 0 (by decide); have tl1 := s1.cl 1 (by decide); have tl2 := s1.cl 2 (by decide); have tl3 := s1.cl 3 (by decide); have tb0 := s1.cb 0 (by decide); have tb1 := s1.cb 1 (by decide); have tb2 := s1.cb 2 (by decide); have tb3 := s1.cb 3 (by decide); have td := s1.cd; have tz := s1.lt; clear s1)
          | (go_at_call 27; refine Calls.mono (HU.out _ HT2.out.up) ?_; rintro e w3 ⟨rfl, hb⟩; have HT3 : Hid (Tq w w3 t) := HT2.out.next hb; clear hb HU HT2; clear tu0 tu1 tu2 tu3 tl0 tl1 tl2 tl3 tb0 tb1 tb2 tb3 td tz))
        go_ret2
        exact ⟨rfl, HT3.out.up⟩
theorem rowB {W : World} {B B' c : Nat} {a : Option Addr} {es : List Ed} (h : EOwn B W a c es) (hB : B' ≤ B) : EOwn B' W a c es := by
  obtain ⟨h1, h2⟩ := h
  rcases h2 with h0 | ⟨g, cap, cur, e1, e2, e3⟩
  · exact ⟨h1, .inl h0⟩
  · exact ⟨h1, .inr ⟨g, cap, cur, e1, by omega, e3⟩⟩
set_option maxHeartbeats 4000000 in
theorem ringOf_ok (ao : Option Addr) (cap : Nat) (xs : List O) (t : Tab) (w : World) (h : OpsAt w ao xs) (hcap : xs.length ≤ cap) (hG : Bnds w) (he : rgE t xs = 0) :
    Calls Tryd.prog 15 #[.slice ao xs.length cap, t.val] w (EdOut w 0 (loopE t xs)) := by
  obtain ⟨h1, h2, h3, h4⟩ := rg_ok he
  have HC : Hid (∀ W, Below w.heap.size w W → Calls Tryd.prog 26 #[t.val] W fun e w' => e = .returned (.int .i64 0) ∧ Below W.heap.size W w') := fun W hb => by
    have := Tb.check_any t W (hG.below hb hG.big)
    rw [show ckR t = 0 by unfold ckR; rw [h1]; rfl] at this
    exact this
  have HL : Hid (∀ W, Below w.heap.size w W → Calls Tryd.prog 13 #[.slice ao xs.length cap, t.val] W (EdOut W 0 (loopE t xs))) := fun W hb => by
    have := loop_any ao cap xs t W (h.below hb) hcap (hG.below hb hG.big)
    unfold erE at this
    rw [if_pos h3, h3] at this
    exact this
  have HU : Hid (∀ W, Below w.heap.size w W → Calls Tryd.prog 27 #[.slice ao xs.length cap, t.val] W fun e w' => e = .returned (.bool true) ∧ Below W.heap.size W w') := fun W hb => by
    have := haveUnits_any ao cap xs t W (h.below hb)
    rw [h4] at this
    exact this
  have hlen := h.len
  have h2' : ¬ (64 : Int) < (xs.length : Int) := by omega
  clear h hcap hG he h1 h2 h3 h4
  unfold EdOut at HL ⊢
  generalize loopE t xs = es at *
  unfold Tab.val at *
  go_enter Tryd.func15, Tryd.ntmps15
  go_wp2_with (first
    | (go_at_call 26; refine Calls.mono (HC.out _ (by go_grown)) ?_; rintro e w1 ⟨rfl, hb⟩; have HT : Hid (Tq w w1 t) := Tq.start w t hb; clear hb HC; have s1 := HT.out.t; have tu0 := s1.cu 0 (by decide); have tu1 := s1.cu 1 (by decide); have tu2 := s1.cu 2 (by decide); have tu3 := s1.cu 3 (by decide); have tl0 := s1.cl 0 (by decide); have tl1 := s1.cl 1 (by decide); have tl2 := s1.cl 2 (by decide); have tl3 := s1.cl 3 (by decide); have tb0 := s1.cb 0 (by decide); have tb1 := s1.cb 1 (by decide); have tb2 := s1.cb 2 (by decide); have tb3 := s1.cb 3 (by decide); have td := s1.cd; have tz := s1.lt; clear s1)
    | (go_at_call 13; refine Calls.mono (HL.out _ HT.out.up) ?_; rintro e w2 ⟨ea, ec, rfl, ho, hb⟩; have HT2 : Hid (Tq w w2 t ∧ EOwn w1.heap.size w2 ea ec es ∧ w.heap.size ≤ w1.heap.size) := ⟨HT.out.next hb, ho, HT.out.up.size⟩; clear hb ho HL HT; clear tu0 tu1 tu2 tu3 tl0 tl1 tl2 tl3 tb0 tb1 tb2 tb3 td tz; have s1 := HT2.out.1.t; have tu0 := s1.cu 0 (by decide); have tu1 := s1.cu 1 (by decide); have tu2 := s1.cu 2 (by decide); have tu3 := s1.cu 3 (by decide); have tl0 := s1.cl 0 (by decide); have tl1 := s1.cl 1 (by decide); have tl2 := s1.cl 2 (by decide); have tl3 := s1.cl 3 (by decide); have tb0 := s1.cb 0 (by decide); have tb1 := s1.cb 1 (by decide); have tb2 := s1.cb 2 (by decide); have tb3 := s1.cb 3 (by decide); have td := s1.cd; have tz := s1.lt; clear s1)
    | (go_at_call 27; refine Calls.mono (HU.out _ HT2.out.1.up) ?_; rintro e w3 ⟨rfl, hb⟩; have HT3 : Hid (Tq w w3 t ∧ EOwn w1.heap.size w3 ea ec es ∧ w.heap.size ≤ w1.heap.size) := ⟨HT2.out.1.next hb, HT2.out.2.1.up hb, HT2.out.2.2⟩; clear hb HU HT2; clear tu0 tu1 tu2 tu3 tl0 tl1 tl2 tl3 tb0 tb1 tb2 tb3 td tz))
  go_ret2
  exact ⟨ea, ec, rfl, rowB HT3.out.2.1 HT3.out.2.2, HT3.out.1.up⟩
end Go.Proofs.YthdpgimdakmdgaaDoor.Bn
