/- What the statements of layer 15 wake by, and BoundsRing, over the program: within as many cycles as Rounds tells no way back takes longer than its rounds, within one fewer some does. Conditions: the list lies in memory, the variables as the program lays them. -/
import Derived.Test.YthdpgimdakmdgaaDoorZj
import Derived.Test.YthdpgimdakmdgaaDoorZk
namespace Go.Proofs.YthdpgimdakmdgaaDoor.Bn
open Go.ChangeShapes Go.WideShapes Go.ChangeAt Go.RowKit
open _root_.Go.Proofs.YthdpgimdakmdgaaDoor.Op _root_.Go.Proofs.YthdpgimdakmdgaaDoor.So
open _root_.Go.Proofs.YthdpgimdakmdgaaDoor.Dp (Ed lisE okL loopE EdOut EOwn erE loop_any lis_all)
open _root_.Go.Proofs.YthdpgimdakmdgaaDoor.Tb (Tab TabAt Bnds ckR)
set_option maxRecDepth 20000

def tW : Tab := ⟨fun _ => 1, fun k => if k = 1 then 3 else if k = 2 then 2 else 1, fun _ => 1, 1⟩
def xW : List O := [⟨12, 1, 1, 2, 0⟩]
abbrev xWC : Array Value := #[.int .i8 12, .int .u8 1, .int .u8 1, .int .u8 2, .int .i64 0]
theorem xW_rg : rgE tW xW = 0 := by kernel_rfl
theorem xW_le : leE tW xW = 3 := by kernel_rfl
theorem xW_ok : ∀ o ∈ xW, o.Ok := fun o h => by
  simp only [xW, List.mem_cons, List.not_mem_nil, or_false] at h
  subst h
  constructor <;> decide
theorem xW_at {w : World} {b : Nat} (h : At w b xWC) : OpsAt w (some ⟨b, 0, none⟩) xW := by
  refine ⟨xW_ok, by decide, fun _ => ⟨b, 0, rfl, h.lt, fun i hi => ?_⟩⟩
  have hi : i < 1 := hi
  match i, hi with
  | 0, _ => exact ⟨h.c 0 _ rfl, h.c 1 _ rfl, h.c 2 _ rfl, h.c 3 _ rfl, h.c 4 _ rfl⟩
set_option maxHeartbeats 4000000 in
theorem wakes_any (w : World) (hG : Bnds w) : Calls Tryd.prog 12 #[] w fun e w' => e = .returned (.bool true) ∧ Below w.heap.size w w' := by
  have HL : Hid (∀ W b, Below w.heap.size w W → At W b xWC → Calls Tryd.prog 10 #[.slice (some ⟨b, 0, none⟩) 1 1, .agg #[.int .i64 1, .int .i64 1, .int .i64 1, .int .i64 1, .int .i64 1, .int .i64 3, .int .i64 2, .int .i64 1, .int .i64 1, .int .i64 1, .int .i64 1, .int .i64 1, .int .i64 1]] W fun e w' => e = .returned (.tuple #[.int .i64 3, .int .i64 0]) ∧ Below W.heap.size W w') := fun W b hb h => by
    have := least_any (some ⟨b, 0, none⟩) 1 xW tW W (xW_at h) (by decide) (hG.below hb hG.big) fun he => rdy_of (loopE_ok (xW_at h) he) (by decide)
    rw [xW_rg, xW_le] at this
    exact this
  have HB0 : Hid (Below w.heap.size w ((w.alloc (.cells #[.int .i64 1, .int .i64 1, .int .i64 1, .int .i64 1, .int .i64 1, .int .i64 3, .int .i64 2, .int .i64 1, .int .i64 1, .int .i64 1, .int .i64 1, .int .i64 1, .int .i64 1] 25)).alloc (.cells xWC 33)) ∧ At ((w.alloc (.cells #[.int .i64 1, .int .i64 1, .int .i64 1, .int .i64 1, .int .i64 1, .int .i64 3, .int .i64 2, .int .i64 1, .int .i64 1, .int .i64 1, .int .i64 1, .int .i64 1, .int .i64 1] 25)).alloc (.cells xWC 33)) (w.heap.size + 1) xWC) := by
    have a2 := At.new (w.alloc (.cells #[.int .i64 1, .int .i64 1, .int .i64 1, .int .i64 1, .int .i64 1, .int .i64 3, .int .i64 2, .int .i64 1, .int .i64 1, .int .i64 1, .int .i64 1, .int .i64 1, .int .i64 1] 25)) xWC 33
    rw [show (w.alloc (.cells #[.int .i64 1, .int .i64 1, .int .i64 1, .int .i64 1, .int .i64 1, .int .i64 3, .int .i64 2, .int .i64 1, .int .i64 1, .int .i64 1, .int .i64 1, .int .i64 1, .int .i64 1] 25)).heap.size = w.heap.size + 1 by simp] at a2
    exact ⟨((Below.refl _ _).alloc (Nat.le_refl _) _).alloc (by simp) _, a2⟩
  clear hG
  go_enter Tryd.func12, Tryd.ntmps12
  go_wp2_with (first
    | (go_at_call 10; refine Calls.mono (HL.out _ _ HB0.out.1 HB0.out.2) ?_; rintro e w1 ⟨rfl, hb⟩; have HB : Hid (Below w.heap.size w w1) := HB0.out.1.trans (hb.mono HB0.out.1.size); clear hb HB0 HL))
  go_ret
  exact ⟨rfl, HB.out⟩
/-- What Rounds' answer is. -/
theorem ring_is {n : Nat} {es : List Ed} (hE : EL n es) (hn : n ≤ 41) : (1 ≤ rndE n es ∧ rndE n es ≤ 512) ∧ bf (rndE n es) es (n + 1) (fun _ => 0) = true ∧ (¬ rndE n es = 1 → bf (rndE n es - 1) es (n + 1) (fun _ => 0) = false) := by
  obtain ⟨h1, h2, h3, h4⟩ := rnd_is (P := fun q => inT (stp q es) n) (srch_of hE hn).top
  have e : rnd (fun q => inT (stp q es) n) = rndE n es := rfl
  rw [e] at h1 h2 h3 h4
  refine ⟨⟨h2, h3⟩, (bf_iff hE _).2 ((inT_iff hE hn (by omega) h3).1 h1), fun hr => ?_⟩
  have h5 := h4 (rndE n es - 1) (by omega) (by omega)
  cases e2 : bf (rndE n es - 1) es (n + 1) (fun _ => 0)
  · rfl
  · have h5 : inT (stp (rndE n es - 1) es) n = false := h5
    rw [(inT_iff hE hn (by omega) (by omega)).2 ((bf_iff hE _).1 e2)] at h5
    cases h5
theorem ops_take {w : World} {ao : Option Addr} {xs : List O} (h : OpsAt w ao xs) (k : Nat) : OpsAt w ao (xs.take k) := by
  refine ⟨fun o ho => h.ok o (List.mem_of_mem_take ho), by have := h.len; rw [List.length_take]; omega, fun h0 => ?_⟩
  rw [List.length_take] at h0
  obtain ⟨b, f, e, z, hx⟩ := h.is (by omega)
  refine ⟨b, f, e, z, fun i hi => ?_⟩
  rw [List.length_take] at hi
  rw [List.getElem_take]
  exact hx i (by omega)
set_option maxHeartbeats 8000000 in
theorem ring_short (ao : Option Addr) (cap : Nat) (xs : List O) (t : Tab) (w : World) (h : OpsAt w ao xs) (hcap : xs.length ≤ cap) (hG : Bnds w) (hlong : xs.length ≤ 24) :
    Calls Tryd.prog 5 #[.slice ao xs.length cap, t.val] w fun e w' => e = .returned (.bool true) ∧ Below w.heap.size w w' := by
  obtain ⟨ys, hys⟩ : ∃ ys, ys = xs := ⟨_, rfl⟩
  have hyl : ys.length = xs.length := by rw [hys]
  have hO : OpsAt w ao ys := by rw [hys]; exact h
  have HW : Hid (∀ W, Below w.heap.size w W → Calls Tryd.prog 12 #[] W fun e w' => e = .returned (.bool true) ∧ Below W.heap.size W w') := fun W hb => wakes_any W (hG.below hb hG.big)
  have HR : Hid (∀ W, Below w.heap.size w W → Calls Tryd.prog 8 #[.slice ao xs.length cap, t.val] W fun e w' => e = .returned (.tuple #[.int .i64 (roE t ys), .int .i64 (rgE t ys)]) ∧ Below W.heap.size W w') := fun W hb => by
    have := rounds_any ao cap ys t W (hO.below hb) (by omega) (hG.below hb hG.big) fun he => rdy_of (loopE_ok hO he) (by omega)
    rw [hyl] at this
    exact this
  have HL : Hid (∀ W, Below w.heap.size w W → Calls Tryd.prog 13 #[.slice ao xs.length cap, t.val] W (EdOut W (lisE t ys) (erE t ys (loopE t ys)))) := fun W hb => by
    have := loop_any ao cap ys t W (hO.below hb) (by omega) (hG.below hb hG.big)
    rw [hyl] at this
    exact this
  have hlen := h.len
  have hlong' : ¬ (24 : Int) < (xs.length : Int) := by omega
  have hlen' : (xs.length : Int) ≤ 8796093022208 := by omega
  have hcap' : (xs.length : Int) ≤ (cap : Int) := by omega
  by_cases he : rgE t ys = 0
  · obtain ⟨p1, p2, p3, p4⟩ := rg_ok he
    have hE := loopE_ok hO he
    rw [hyl] at hE
    have HEn : Hid (∀ W ea ec (q : Int), Es W ea (loopE t ys) → 0 ≤ q → q ≤ 512 → Calls Tryd.prog 14 #[.slice ea (loopE t ys).length ec, .int .i64 (xs.length : Int), .int .i64 q] W fun e w' => e = .returned (.bool (bf q (loopE t ys) (xs.length + 1) fun _ => 0)) ∧ Below W.heap.size W w') := fun W ea ec q hs h0 h1 => ends_any xs.length (by omega) ea ec _ _ rfl q W hs hE h0 h1 (loopE_len (by omega))
    obtain ⟨⟨r1, r2⟩, r3, r4⟩ := ring_is hE (by omega)
    have er : roE t ys = rndE xs.length (loopE t ys) := by unfold roE; rw [if_pos he, hyl]
    rw [er, he] at HR
    unfold erE at HL
    rw [if_pos p3, p3] at HL
    unfold EdOut at HL
    clear h hcap hG hO he p1 p2 p3 p4 hE er hys hyl hlong
    generalize rndE xs.length (loopE t ys) = r at *
    generalize loopE t ys = es at *
    have HE1 : Hid (∀ W ea ec, Es W ea es → Calls Tryd.prog 14 #[.slice ea es.length ec, .int .i64 (xs.length : Int), .int .i64 r] W fun e w' => e = .returned (.bool true) ∧ Below W.heap.size W w') := fun W ea ec hs => by
      have := HEn.out W ea ec r hs (by omega) r2
      rw [r3] at this
      exact this
    by_cases hr1 : r = 1
    · clear r4 r3 HEn
      subst hr1
      unfold Tab.val at *
      go_enter Tryd.func5, Tryd.ntmps5
      go_upto_region 3 with fail
      go_upto_region 7 with (first
        | (go_at_call 8; refine Calls.mono (HR.out _ (by go_grown)) ?_; rintro e w1 ⟨rfl, hb⟩; have HT : Hid (Tq w w1 t) := Tq.start w t hb; clear hb HR; have s1 := HT.out.t; have tu0 := s1.cu 0 (by decide); have tu1 := s1.cu 1 (by decide); have tu2 := s1.cu 2 (by decide); have tu3 := s1.cu 3 (by decide); have tl0 := s1.cl 0 (by decide); have tl1 := s1.cl 1 (by decide); have tl2 := s1.cl 2 (by decide); have tl3 := s1.cl 3 (by decide); have tb0 := s1.cb 0 (by decide); have tb1 := s1.cb 1 (by decide); have tb2 := s1.cb 2 (by decide); have tb3 := s1.cb 3 (by decide); have td := s1.cd; have tz := s1.lt; clear s1)
        | (go_at_call 13; refine Calls.mono (HL.out _ HT.out.up) ?_; rintro e w2 ⟨ea, ec, rfl, ho, hb⟩; have HT2 : Hid (Tq w w2 t ∧ Es w2 ea es) := ⟨HT.out.next hb, es_of ho⟩; clear hb ho HL HT; clear tu0 tu1 tu2 tu3 tl0 tl1 tl2 tl3 tb0 tb1 tb2 tb3 td tz))
      go_wp2_with (first
        | (go_at_call 14; refine Calls.mono (HE1.out _ _ _ HT2.out.2) ?_; rintro e w3 ⟨rfl, hb⟩; have HT3 : Hid (Tq w w3 t) := HT2.out.1.next hb; clear hb HE1 HT2)
        | (go_at_call 12; refine Calls.mono (HW.out _ HT3.out.up) ?_; rintro e w4 ⟨rfl, hb⟩; have HT4 : Hid (Tq w w4 t) := HT3.out.next hb; clear hb HW HT3))
      go_ret
      exact ⟨rfl, HT4.out.up⟩
    · have HE2 : Hid (∀ W ea ec, Es W ea es → Calls Tryd.prog 14 #[.slice ea es.length ec, .int .i64 (xs.length : Int), .int .i64 (r - 1)] W fun e w' => e = .returned (.bool false) ∧ Below W.heap.size W w') := fun W ea ec hs => by
        have := HEn.out W ea ec (r - 1) hs (by omega) (by omega)
        rw [r4 hr1] at this
        exact this
      have hb1 : (r == 1) = false := by simpa using hr1
      clear r4 r3 HEn hr1
      unfold Tab.val at *
      go_enter Tryd.func5, Tryd.ntmps5
      go_upto_region 3 with fail
      go_upto_region 7 with (first
        | (go_at_call 8; refine Calls.mono (HR.out _ (by go_grown)) ?_; rintro e w1 ⟨rfl, hb⟩; have HT : Hid (Tq w w1 t) := Tq.start w t hb; clear hb HR; have s1 := HT.out.t; have tu0 := s1.cu 0 (by decide); have tu1 := s1.cu 1 (by decide); have tu2 := s1.cu 2 (by decide); have tu3 := s1.cu 3 (by decide); have tl0 := s1.cl 0 (by decide); have tl1 := s1.cl 1 (by decide); have tl2 := s1.cl 2 (by decide); have tl3 := s1.cl 3 (by decide); have tb0 := s1.cb 0 (by decide); have tb1 := s1.cb 1 (by decide); have tb2 := s1.cb 2 (by decide); have tb3 := s1.cb 3 (by decide); have td := s1.cd; have tz := s1.lt; clear s1)
        | (go_at_call 13; refine Calls.mono (HL.out _ HT.out.up) ?_; rintro e w2 ⟨ea, ec, rfl, ho, hb⟩; have HT2 : Hid (Tq w w2 t ∧ Es w2 ea es) := ⟨HT.out.next hb, es_of ho⟩; clear hb ho HL HT; clear tu0 tu1 tu2 tu3 tl0 tl1 tl2 tl3 tb0 tb1 tb2 tb3 td tz))
      go_wp2_with (first
        | (go_at_call 14; refine Calls.mono (HE1.out _ _ _ HT2.out.2) ?_; rintro e w3 ⟨rfl, hb⟩; have HT3 : Hid (Tq w w3 t ∧ Es w3 ea es) := ⟨HT2.out.1.next hb, HT2.out.2.up hb⟩; clear hb HE1 HT2)
        | (go_at_call 14; refine Calls.mono (HE2.out _ _ _ HT3.out.2) ?_; rintro e w5 ⟨rfl, hb⟩; have HT5 : Hid (Tq w w5 t) := HT3.out.1.next hb; clear hb HE2 HT3)
        | (go_at_call 12; refine Calls.mono (HW.out _ HT5.out.up) ?_; rintro e w4 ⟨rfl, hb⟩; have HT4 : Hid (Tq w w4 t) := HT5.out.next hb; clear hb HW HT5))
      go_ret
      exact ⟨rfl, HT4.out.up⟩
  · have er : roE t ys = 0 := if_neg he
    have he2 : (rgE t ys != 0) = true := by simpa using he
    rw [er] at HR
    clear HL h hcap hG hO he er hys hyl hlong
    generalize rgE t ys = er at *
    unfold Tab.val at *
    go_enter Tryd.func5, Tryd.ntmps5
    go_upto_region 3 with fail
    go_wp2_with (first
      | (go_at_call 8; refine Calls.mono (HR.out _ (by go_grown)) ?_; rintro e w1 ⟨rfl, hb⟩; have HT : Hid (Tq w w1 t) := Tq.start w t hb; clear hb HR)
      | (go_at_call 12; refine Calls.mono (HW.out _ HT.out.up) ?_; rintro e w4 ⟨rfl, hb⟩; have HT4 : Hid (Tq w w4 t) := HT.out.next hb; clear hb HW HT))
    go_ret
    exact ⟨rfl, HT4.out.up⟩
set_option maxHeartbeats 8000000 in
theorem ring_long (ao : Option Addr) (cap : Nat) (xs : List O) (t : Tab) (w : World) (h : OpsAt w ao xs) (hcap : xs.length ≤ cap) (hG : Bnds w) (hlong : 24 < xs.length) :
    Calls Tryd.prog 5 #[.slice ao xs.length cap, t.val] w fun e w' => e = .returned (.bool true) ∧ Below w.heap.size w w' := by
  obtain ⟨ys, hys⟩ : ∃ ys, ys = (xs.take 24) := ⟨_, rfl⟩
  have hyl : ys.length = 24 := by rw [hys]; rw [List.length_take]; omega
  have hO : OpsAt w ao ys := by rw [hys]; exact ops_take h 24
  have HW : Hid (∀ W, Below w.heap.size w W → Calls Tryd.prog 12 #[] W fun e w' => e = .returned (.bool true) ∧ Below W.heap.size W w') := fun W hb => wakes_any W (hG.below hb hG.big)
  have HR : Hid (∀ W, Below w.heap.size w W → Calls Tryd.prog 8 #[.slice ao 24 cap, t.val] W fun e w' => e = .returned (.tuple #[.int .i64 (roE t ys), .int .i64 (rgE t ys)]) ∧ Below W.heap.size W w') := fun W hb => by
    have := rounds_any ao cap ys t W (hO.below hb) (by omega) (hG.below hb hG.big) fun he => rdy_of (loopE_ok hO he) (by omega)
    rw [hyl] at this
    exact this
  have HL : Hid (∀ W, Below w.heap.size w W → Calls Tryd.prog 13 #[.slice ao 24 cap, t.val] W (EdOut W (lisE t ys) (erE t ys (loopE t ys)))) := fun W hb => by
    have := loop_any ao cap ys t W (hO.below hb) (by omega) (hG.below hb hG.big)
    rw [hyl] at this
    exact this
  have hlen := h.len
  have hlong' : (24 : Int) < (xs.length : Int) := by omega
  have hlen' : (xs.length : Int) ≤ 8796093022208 := by omega
  have hcap' : (xs.length : Int) ≤ (cap : Int) := by omega
  have hc24 : (24 : Int) ≤ (cap : Int) := by omega
  by_cases he : rgE t ys = 0
  · obtain ⟨p1, p2, p3, p4⟩ := rg_ok he
    have hE := loopE_ok hO he
    rw [hyl] at hE
    have HEn : Hid (∀ W ea ec (q : Int), Es W ea (loopE t ys) → 0 ≤ q → q ≤ 512 → Calls Tryd.prog 14 #[.slice ea (loopE t ys).length ec, .int .i64 24, .int .i64 q] W fun e w' => e = .returned (.bool (bf q (loopE t ys) (24 + 1) fun _ => 0)) ∧ Below W.heap.size W w') := fun W ea ec q hs h0 h1 => ends_any 24 (by omega) ea ec _ _ rfl q W hs hE h0 h1 (loopE_len (by omega))
    obtain ⟨⟨r1, r2⟩, r3, r4⟩ := ring_is hE (by omega)
    have er : roE t ys = rndE 24 (loopE t ys) := by unfold roE; rw [if_pos he, hyl]
    rw [er, he] at HR
    unfold erE at HL
    rw [if_pos p3, p3] at HL
    unfold EdOut at HL
    clear h hcap hG hO he p1 p2 p3 p4 hE er hys hyl hlong
    generalize rndE 24 (loopE t ys) = r at *
    generalize loopE t ys = es at *
    have HE1 : Hid (∀ W ea ec, Es W ea es → Calls Tryd.prog 14 #[.slice ea es.length ec, .int .i64 24, .int .i64 r] W fun e w' => e = .returned (.bool true) ∧ Below W.heap.size W w') := fun W ea ec hs => by
      have := HEn.out W ea ec r hs (by omega) r2
      rw [r3] at this
      exact this
    by_cases hr1 : r = 1
    · clear r4 r3 HEn
      subst hr1
      unfold Tab.val at *
      go_enter Tryd.func5, Tryd.ntmps5
      go_upto_region 3 with fail
      go_upto_region 7 with (first
        | (go_at_call 8; refine Calls.mono (HR.out _ (by go_grown)) ?_; rintro e w1 ⟨rfl, hb⟩; have HT : Hid (Tq w w1 t) := Tq.start w t hb; clear hb HR; have s1 := HT.out.t; have tu0 := s1.cu 0 (by decide); have tu1 := s1.cu 1 (by decide); have tu2 := s1.cu 2 (by decide); have tu3 := s1.cu 3 (by decide); have tl0 := s1.cl 0 (by decide); have tl1 := s1.cl 1 (by decide); have tl2 := s1.cl 2 (by decide); have tl3 := s1.cl 3 (by decide); have tb0 := s1.cb 0 (by decide); have tb1 := s1.cb 1 (by decide); have tb2 := s1.cb 2 (by decide); have tb3 := s1.cb 3 (by decide); have td := s1.cd; have tz := s1.lt; clear s1)
        | (go_at_call 13; refine Calls.mono (HL.out _ HT.out.up) ?_; rintro e w2 ⟨ea, ec, rfl, ho, hb⟩; have HT2 : Hid (Tq w w2 t ∧ Es w2 ea es) := ⟨HT.out.next hb, es_of ho⟩; clear hb ho HL HT; clear tu0 tu1 tu2 tu3 tl0 tl1 tl2 tl3 tb0 tb1 tb2 tb3 td tz))
      go_wp2_with (first
        | (go_at_call 14; refine Calls.mono (HE1.out _ _ _ HT2.out.2) ?_; rintro e w3 ⟨rfl, hb⟩; have HT3 : Hid (Tq w w3 t) := HT2.out.1.next hb; clear hb HE1 HT2)
        | (go_at_call 12; refine Calls.mono (HW.out _ HT3.out.up) ?_; rintro e w4 ⟨rfl, hb⟩; have HT4 : Hid (Tq w w4 t) := HT3.out.next hb; clear hb HW HT3))
      go_ret
      exact ⟨rfl, HT4.out.up⟩
    · have HE2 : Hid (∀ W ea ec, Es W ea es → Calls Tryd.prog 14 #[.slice ea es.length ec, .int .i64 24, .int .i64 (r - 1)] W fun e w' => e = .returned (.bool false) ∧ Below W.heap.size W w') := fun W ea ec hs => by
        have := HEn.out W ea ec (r - 1) hs (by omega) (by omega)
        rw [r4 hr1] at this
        exact this
      have hb1 : (r == 1) = false := by simpa using hr1
      clear r4 r3 HEn hr1
      unfold Tab.val at *
      go_enter Tryd.func5, Tryd.ntmps5
      go_upto_region 3 with fail
      go_upto_region 7 with (first
        | (go_at_call 8; refine Calls.mono (HR.out _ (by go_grown)) ?_; rintro e w1 ⟨rfl, hb⟩; have HT : Hid (Tq w w1 t) := Tq.start w t hb; clear hb HR; have s1 := HT.out.t; have tu0 := s1.cu 0 (by decide); have tu1 := s1.cu 1 (by decide); have tu2 := s1.cu 2 (by decide); have tu3 := s1.cu 3 (by decide); have tl0 := s1.cl 0 (by decide); have tl1 := s1.cl 1 (by decide); have tl2 := s1.cl 2 (by decide); have tl3 := s1.cl 3 (by decide); have tb0 := s1.cb 0 (by decide); have tb1 := s1.cb 1 (by decide); have tb2 := s1.cb 2 (by decide); have tb3 := s1.cb 3 (by decide); have td := s1.cd; have tz := s1.lt; clear s1)
        | (go_at_call 13; refine Calls.mono (HL.out _ HT.out.up) ?_; rintro e w2 ⟨ea, ec, rfl, ho, hb⟩; have HT2 : Hid (Tq w w2 t ∧ Es w2 ea es) := ⟨HT.out.next hb, es_of ho⟩; clear hb ho HL HT; clear tu0 tu1 tu2 tu3 tl0 tl1 tl2 tl3 tb0 tb1 tb2 tb3 td tz))
      go_wp2_with (first
        | (go_at_call 14; refine Calls.mono (HE1.out _ _ _ HT2.out.2) ?_; rintro e w3 ⟨rfl, hb⟩; have HT3 : Hid (Tq w w3 t ∧ Es w3 ea es) := ⟨HT2.out.1.next hb, HT2.out.2.up hb⟩; clear hb HE1 HT2)
        | (go_at_call 14; refine Calls.mono (HE2.out _ _ _ HT3.out.2) ?_; rintro e w5 ⟨rfl, hb⟩; have HT5 : Hid (Tq w w5 t) := HT3.out.1.next hb; clear hb HE2 HT3)
        | (go_at_call 12; refine Calls.mono (HW.out _ HT5.out.up) ?_; rintro e w4 ⟨rfl, hb⟩; have HT4 : Hid (Tq w w4 t) := HT5.out.next hb; clear hb HW HT5))
      go_ret
      exact ⟨rfl, HT4.out.up⟩
  · have er : roE t ys = 0 := if_neg he
    have he2 : (rgE t ys != 0) = true := by simpa using he
    rw [er] at HR
    clear HL h hcap hG hO he er hys hyl hlong
    generalize rgE t ys = er at *
    unfold Tab.val at *
    go_enter Tryd.func5, Tryd.ntmps5
    go_upto_region 3 with fail
    go_wp2_with (first
      | (go_at_call 8; refine Calls.mono (HR.out _ (by go_grown)) ?_; rintro e w1 ⟨rfl, hb⟩; have HT : Hid (Tq w w1 t) := Tq.start w t hb; clear hb HR)
      | (go_at_call 12; refine Calls.mono (HW.out _ HT.out.up) ?_; rintro e w4 ⟨rfl, hb⟩; have HT4 : Hid (Tq w w4 t) := HT.out.next hb; clear hb HW HT))
    go_ret
    exact ⟨rfl, HT4.out.up⟩
theorem law_ring (ao : Option Addr) (cap : Nat) (xs : List O) (t : Tab) (w : World) (h : OpsAt w ao xs) (hcap : xs.length ≤ cap) (hG : Bnds w) :
    Calls Tryd.prog 5 #[.slice ao xs.length cap, t.val] w fun e w' => e = .returned (.bool true) ∧ Below w.heap.size w w' := by
  by_cases hl : xs.length ≤ 24
  · exact ring_short ao cap xs t w h hcap hG hl
  · exact ring_long ao cap xs t w h hcap hG (by omega)
end Go.Proofs.YthdpgimdakmdgaaDoor.Bn
