/- The statement BetterSame, the ways that ask wakes alone. Conditions: the program and the state lie in memory; the variables as the program lays them. -/
import Derived.Test.YtddcndlogoajkaaGreatDoorHe
import Derived.Test.YtddcndlogoajkaaGreatDoorGl
import Derived.BigQuiet
import Derived.Deep.DeepCutAuto
namespace Go.Proofs.YtddcndlogoajkaaGreatDoor.L8.Bt
open Go.ChangeShapes Go.WideShapes Go.ChangeAt Go.RowKit Go.Great
open _root_.Go.Proofs.YtddcndlogoajkaaGreatDoor.L8.So _root_.Go.Proofs.YtddcndlogoajkaaGreatDoor.L8.Op _root_.Go.Proofs.YtddcndlogoajkaaGreatDoor.L8.Fl
open _root_.Go.Proofs.YtddcndlogoajkaaGreatDoor.L8.Lv (PsOk psOk_of PB bOf)
open _root_.Go.Proofs.YtddcndlogoajkaaGreatDoor.L8.Sm (Bx Sn In64 NL NewPost' D2 Z2 MM ptr Ma runM initM outMem memL NoK stN)
set_option maxRecDepth 20000

/-- What a run leaves, told in letters. -/
def Ro (w : World) (q : Nat) (ps : List Bk) (T : Nat → Prop) (M' : Ma) (E V : Int) (p k : List Int) (S : Int) (e : Ending) (w' : World) : Prop := ∃ a m c d T', e = .returned (.agg #[.int .i64 E, .int .i64 V, .slice a p.length c, .slice m k.length d, .int .i64 S]) ∧ _root_.Go.Proofs.YtddcndlogoajkaaGreatDoor.L8.Sm.Own w w' a p ∧ _root_.Go.Proofs.YtddcndlogoajkaaGreatDoor.L8.Sm.Own w w' m k ∧ MM w' q ps T' M' ∧ _root_.Go.Proofs.YtddcndlogoajkaaGreatDoor.L8.Sm.Tn w T w' T' ∧ p.length ≤ 10000 ∧ k.length ≤ 256 ∧ p.length ≤ c
theorem ro_of {w : World} {q : Nat} {ps : List Bk} {T : Nat → Prop} {M0 : Ma} {f : Nat} {e : Ending} {w' : World} (hf : f ≤ 7000) (h0 : M0.s = 0) (h : _root_.Go.Proofs.YtddcndlogoajkaaGreatDoor.L8.Sm.RunPost w q ps T (runM ps f M0) e w') : Ro w q ps T (runM ps f M0) (runM ps f M0).e (if (runM ps f M0).e = 0 then (runM ps f M0).v else 0) (runM ps f M0).pr (outMem (runM ps f M0)) ((runM ps f M0).s : Int) e w' := by
  obtain ⟨a, m, c, d, T', e1, h1, h2, h3, h4, h5⟩ := _root_.Go.Proofs.YtddcndlogoajkaaGreatDoor.L8.Sm.run_post' h
  refine ⟨a, m, c, d, T', e1, h1, h2, h3, h4, ?_, ?_, h5⟩
  · have i1 := h3.inv.p
    have i2 := _root_.Go.Proofs.YtddcndlogoajkaaGreatDoor.L8.Sm.trail_len ps f M0
    have i3 := _root_.Go.Proofs.YtddcndlogoajkaaGreatDoor.L8.Sm.trail_le ps f M0
    omega
  · unfold outMem
    split
    · rw [_root_.Go.Proofs.YtddcndlogoajkaaGreatDoor.L8.Sm.memL_len]
      omega
    · simp

theorem bx_new (w : World) (ao ra ma : Option Addr) (n cap rl rc ml mc : Nat) : Bx w ((w.alloc (.cells #[.slice ao n cap] 24)).alloc (.cells #[.slice ra rl rc, .slice ma ml mc] 35)) ao n cap ra ma rl rc ml mc := by
  obtain ⟨a1, a2, hb, -, -⟩ := two_new w #[.slice ao n cap] #[.slice ra rl rc, .slice ma ml mc] 24 35 (Below.refl _ _)
  exact ⟨a1, a2, hb⟩
set_option maxHeartbeats 4000000 in
theorem same_no (ao ra ma : Option Addr) (cap rl rc ml mc : Nat) (ps : List Bk) (steps : Int) (w : World) (h : PAt w ao ps) (he : Env w) (hn : ckP ps ≠ 0 ∨ 200 < opsN ps) :
    Calls Tryz.prog 4 #[.agg #[.slice ao ps.length cap], .agg #[.slice ra rl rc, .slice ma ml mc], .int .i64 steps] w fun e w' => e = .returned (.bool true) ∧ Below w.heap.size w w' := by
  have HQ : Hid _ := bx_new w ao ra ma ps.length cap rl rc ml mc
  have HK : Hid (∀ W, Below w.heap.size w W → Calls Tryz.prog 6 #[] W fun e w' => e = .returned (.bool true) ∧ Below W.heap.size W w') := fun W hb => wakes_any W (he.up hb)
  have HC : Hid (∀ W, Below w.heap.size w W → Calls Tryz.prog 14 #[.agg #[.slice ao ps.length cap]] W fun e w' => e = .returned (.int .i64 (ckP ps)) ∧ Below W.heap.size W w') := fun W hb => checkP_any ao cap ps W (h.below hb) (he.up hb)
  by_cases hc : ckP ps = 0
  · have hl : ps.length ≤ 8192 := by have := (psG_of (psOk_of h) hc).n; omega
    have HO : Hid (∀ W, Below w.heap.size w W → Calls Tryz.prog 11 #[.agg #[.slice ao ps.length cap]] W fun e w' => e = .returned (.int .i64 ((opsN ps : Nat) : Int)) ∧ Below W.heap.size W w') := fun W hb => ops_any ao cap ps W (h.below hb) hl
    rw [hc] at HC
    have ho : (200 : Int) < ((opsN ps : Nat) : Int) := by
      have : 200 < opsN ps := hn.elim (fun q => absurd hc q) id
      omega
    clear h he hn hc hl
    generalize ((opsN ps : Nat) : Int) = on at *
    generalize ps.length = pl at *
    go_enter Tryz.func4, Tryz.ntmps4
    go_wp2_with (first
      | (go_at_call 14; go_loud (refine Calls.mono (HC.out _ HQ.out.b) ?_; rintro e w1 ⟨rfl, b1⟩; have H1 : Hid _ := HQ.out.up b1; have c0 := H1.out.p.c 0 _ rfl; have cl := H1.out.p.lt; clear b1 HQ HC))
      | (go_at_call 11; go_loud (refine Calls.mono (HO.out _ H1.out.b) ?_; rintro e w2 ⟨rfl, b2⟩; have H2 : Hid (Below w.heap.size w w2) := (H1.out.up b2).b; clear b2 H1 HO c0 cl))
      | (go_at_call 6; go_loud (refine Calls.mono (HK.out _ H2.out) ?_; rintro e w3 ⟨rfl, b3⟩; have H3 : Hid (Below w.heap.size w w3) := H2.out.trans (b3.mono H2.out.size); clear b3 H2 HK)))
    go_ret
    exact ⟨rfl, H3.out⟩
  · have hc' : (ckP ps == 0) = false := by simpa using hc
    clear h he hn
    generalize ckP ps = ck at *
    generalize ps.length = pl at *
    go_enter Tryz.func4, Tryz.ntmps4
    go_wp2_with (first
      | (go_at_call 14; go_loud (refine Calls.mono (HC.out _ HQ.out.b) ?_; rintro e w1 ⟨rfl, b1⟩; have H1 : Hid (Below w.heap.size w w1) := (HQ.out.up b1).b; clear b1 HQ HC))
      | (go_at_call 6; go_loud (refine Calls.mono (HK.out _ H1.out) ?_; rintro e w3 ⟨rfl, b3⟩; have H3 : Hid (Below w.heap.size w w3) := H1.out.trans (b3.mono H1.out.size); clear b3 H1 HK)))
    go_ret
    exact ⟨rfl, H3.out⟩
/-- The program made better lies beside the other, both boxes with it. -/
structure Qx (w W : World) (ao : Option Addr) (n cap : Nat) (ra ma : Option Addr) (rl rc ml mc : Nat) (t : Nat) (a2 : Option Addr) (c2 : Nat) (qs : List Bk) : Prop where
  bx : Bx w W ao n cap ra ma rl rc ml mc
  q : PAt W a2 qs
  t : At W t #[.slice a2 n c2]
theorem Qx.up {w W W' : World} {ao : Option Addr} {n cap : Nat} {ra ma : Option Addr} {rl rc ml mc : Nat} {t : Nat} {a2 : Option Addr} {c2 : Nat} {qs : List Bk} (h : Qx w W ao n cap ra ma rl rc ml mc t a2 c2 qs) (hb : Below W.heap.size W W') : Qx w W' ao n cap ra ma rl rc ml mc t a2 c2 qs :=
  ⟨h.bx.up hb, h.q.below hb, h.t.below hb h.t.lt⟩
set_option maxHeartbeats 4000000 in
theorem same_great (qs : List Bk) (ao ra ma : Option Addr) (cap rl rc ml mc : Nat) (ps : List Bk) (steps : Int) (w : World) (h : PAt w ao ps) (he : Env w) (hG : PsG ps) (h2 : opsN ps ≤ 200) (hq : FinIs (fdP ps) qs) (hg : 32 < rl ∨ 256 < ml) :
    Calls Tryz.prog 4 #[.agg #[.slice ao ps.length cap], .agg #[.slice ra rl rc, .slice ma ml mc], .int .i64 steps] w fun e w' => e = .returned (.bool true) ∧ Below w.heap.size w w' := by
  have HQ : Hid _ := bx_new w ao ra ma ps.length cap rl rc ml mc
  have HK : Hid (∀ W, Below w.heap.size w W → Calls Tryz.prog 6 #[] W fun e w' => e = .returned (.bool true) ∧ Below W.heap.size W w') := fun W hb => wakes_any W (he.up hb)
  have HC : Hid (∀ W, Below w.heap.size w W → Calls Tryz.prog 14 #[.agg #[.slice ao ps.length cap]] W fun e w' => e = .returned (.int .i64 0) ∧ Below W.heap.size W w') := fun W hb => by
    have := checkP_any ao cap ps W (h.below hb) (he.up hb)
    rw [hG.ck] at this
    exact this
  have HO : Hid (∀ W, Below w.heap.size w W → Calls Tryz.prog 11 #[.agg #[.slice ao ps.length cap]] W fun e w' => e = .returned (.int .i64 ((opsN ps : Nat) : Int)) ∧ Below W.heap.size W w') := fun W hb => ops_any ao cap ps W (h.below hb) (by have := hG.n; omega)
  have HF : Hid (∀ W, Below w.heap.size w W → Calls Tryz.prog 7 #[.agg #[.slice ao ps.length cap]] W fun e w' => ∃ a c, e = .returned (.tuple #[.agg #[.slice a ps.length c], .int .i64 0]) ∧ PAt w' a (fdP ps) ∧ Below W.heap.size W w') := fun W hb => fold_ok ao cap ps W (h.below hb) (he.up hb) hG
  have hfl : (fdP ps).length = ps.length := by simp [fdP]
  have HBu : Hid (∀ W a c, Below w.heap.size w W → PAt W a (fdP ps) → Calls Tryz.prog 12 #[.agg #[.slice a ps.length c]] W fun e w' => ∃ a c, e = .returned (.tuple #[.agg #[.slice a ps.length c], .int .i64 0]) ∧ PAt w' a qs ∧ Fin (fdP ps) qs ∧ Below W.heap.size W w') := fun W a c hb hp => by
    have := bury_ok qs a c (fdP ps) W hp (he.up hb) (psG_fold hG) hq
    rw [hfl] at this
    exact this
  have HSt : Hid (∀ W, Calls Tryz.prog 15 #[.int .i64 steps] W fun e w' => e = .returned (.int .i64 (stN steps)) ∧ w' = W) := fun W => Sm.steps_any steps W
  have HN1 : Hid (∀ W, Below w.heap.size w W → Calls Tryz.prog 16 #[.agg #[.slice ao ps.length cap], .agg #[.slice ra rl rc, .slice ma ml mc]] W fun e w' => e = .returned (.tuple #[.pointer none, .int .i64 2]) ∧ Below W.heap.size W w') := fun W hb => Sm.new_great ao ra ma cap rl rc ml mc ps W (h.below hb) (he.up hb) hG.ck hg
  have HN2 : Hid (∀ W a c, Below w.heap.size w W → PAt W a qs → Fin (fdP ps) qs → Calls Tryz.prog 16 #[.agg #[.slice a ps.length c], .agg #[.slice ra rl rc, .slice ma ml mc]] W fun e w' => e = .returned (.tuple #[.pointer none, .int .i64 2]) ∧ Below W.heap.size W w') := fun W a c hb hp hf => by
    obtain ⟨g1, g2, -⟩ := fin_g (psG_fold hG) hf
    have := Sm.new_great a ra ma c rl rc ml mc qs W hp (he.up hb) g1.ck hg
    rw [g2, hfl] at this
    exact this
  have ho : ¬ (200 : Int) < ((opsN ps : Nat) : Int) := by omega
  clear h he hG h2 hq hg hfl
  generalize ((opsN ps : Nat) : Int) = on at *
  generalize ps.length = pl at *
  go_enter Tryz.func4, Tryz.ntmps4
  go_upto_region 4 with (first
    | (go_at_call 14; go_loud (refine Calls.mono (HC.out _ HQ.out.b) ?_; rintro e w1 ⟨rfl, b1⟩; have H1 : Hid _ := HQ.out.up b1; have c0 := H1.out.p.c 0 _ rfl; have cl := H1.out.p.lt; clear b1 HQ HC))
    | (go_at_call 11; go_loud (refine Calls.mono (HO.out _ H1.out.b) ?_; rintro e w2 ⟨rfl, b2⟩; have H2 : Hid _ := H1.out.up b2; have d0 := H2.out.p.c 0 _ rfl; have dl := H2.out.p.lt; clear b2 H1 HO c0 cl))
    | (go_at_call 7; go_loud (refine Calls.mono (HF.out _ H2.out.b) ?_; rintro e w3 ⟨a1, c1, rfl, hp1, b3⟩; have HP1 : Hid _ := hp1; have H3 : Hid _ := H2.out.up b3; clear hp1 b3 H2 HF d0 dl)))
  have b4 : Below w3.heap.size w3 (w3.alloc (.cells #[.slice a1 pl c1] 24)) := below_al _
  have H4 : Hid _ := H3.out.up b4
  have HP4 : Hid _ := HP1.out.below b4
  have HA4 : Hid _ := Op.At.new w3 #[.slice a1 pl c1] 24
  have s4 := HA4.out.c 0 _ rfl
  clear b4 H3 HP1
  generalize w3.alloc (.cells #[.slice a1 pl c1] 24) = w4 at *
  generalize w3.heap.size = t4 at *
  clear w3
  go_upto_region 5 with (first
    | (go_at_call 12; go_loud (refine Calls.mono (HBu.out _ _ _ H4.out.b HP4.out) ?_; rintro e w5 ⟨a2, c2, rfl, hp2, hfin, b5⟩; have HP5 : Hid _ := hp2; have HF5 : Hid _ := hfin; have H5 : Hid _ := H4.out.up b5; clear hp2 hfin b5 H4 HP4 HA4 HBu s4)))
  have b6 : Below w5.heap.size w5 (w5.alloc (.cells #[.slice a2 pl c2] 24)) := below_al _
  have H6 : Hid (Qx w (w5.alloc (.cells #[.slice a2 pl c2] 24)) ao pl cap ra ma rl rc ml mc w5.heap.size a2 c2 qs) := ⟨H5.out.up b6, HP5.out.below b6, Op.At.new w5 #[.slice a2 pl c2] 24⟩
  clear b6 H5 HP5
  generalize w5.alloc (.cells #[.slice a2 pl c2] 24) = w6 at *
  generalize w5.heap.size = t6 at *
  clear w5
  have c0 := H6.out.bx.p.c 0 _ rfl
  have cl := H6.out.bx.p.lt
  have d0 := H6.out.bx.s.c 0 _ rfl
  have d1 := H6.out.bx.s.c 1 _ rfl
  have dl := H6.out.bx.s.lt
  go_wp2_with (first
    | (go_at_call 15; go_loud (refine Calls.mono (HSt.out _) ?_; rintro e w7 ⟨rfl, hw7⟩; subst w7))
    | (go_at_call 16; go_loud (refine Calls.mono (HN1.out _ H6.out.bx.b) ?_; rintro e w8 ⟨rfl, b8⟩; have H8 : Hid _ := H6.out.up b8; have e0 := H8.out.t.c 0 _ rfl; have f0 := H8.out.bx.s.c 0 _ rfl; have f1 := H8.out.bx.s.c 1 _ rfl; have fl := H8.out.bx.s.lt; clear b8 H6 HN1 c0 cl d0 d1 dl))
    | (go_at_call 16; go_loud (refine Calls.mono (HN2.out _ _ _ H8.out.bx.b H8.out.q HF5.out) ?_; rintro e w9 ⟨rfl, b9⟩; have H9 : Hid (Below w.heap.size w w9) := (H8.out.up b9).bx.b; clear b9 H8 HN2 e0 f0 f1 fl))
    | (go_at_call 6; go_loud (refine Calls.mono (HK.out _ H9.out) ?_; rintro e wa ⟨rfl, ba⟩; have HA : Hid (Below w.heap.size w wa) := H9.out.trans (ba.mono H9.out.size); clear ba H9 HK)))
  go_ret
  exact ⟨rfl, HA.out⟩
end Go.Proofs.YtddcndlogoajkaaGreatDoor.L8.Bt
