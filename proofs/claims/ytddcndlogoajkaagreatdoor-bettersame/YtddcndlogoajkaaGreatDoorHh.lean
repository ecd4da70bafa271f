/- The statement BetterSame: out of its ways. Conditions: the program and the state lie in memory; the variables as the program lays them. -/
import Derived.Test.YtddcndlogoajkaaGreatDoorHf
import Derived.Deep.RegionHeld
import Derived.Deep.RegionHeld3
namespace Go.Proofs.YtddcndlogoajkaaGreatDoor.L8.Bt
open Go.ChangeShapes Go.WideShapes Go.ChangeAt Go.RowKit Go.Great
open _root_.Go.Proofs.YtddcndlogoajkaaGreatDoor.L8.So _root_.Go.Proofs.YtddcndlogoajkaaGreatDoor.L8.Op _root_.Go.Proofs.YtddcndlogoajkaaGreatDoor.L8.Fl
open _root_.Go.Proofs.YtddcndlogoajkaaGreatDoor.L8.Lv (PsOk psOk_of PB bOf)
open _root_.Go.Proofs.YtddcndlogoajkaaGreatDoor.L8.Sm (Bx Sn In64 NL NewPost' D2 Z2 MM ptr Ma runM initM outMem memL NoK stN nl_pre)
set_option maxRecDepth 20000

set_option maxHeartbeats 8000000 in
theorem same_main (qs : List Bk) (ao ra ma : Option Addr) (cap rc mc : Nat) (ps : List Bk) (rs ms : List Int) (steps : Int) (w : World) (h : PAt w ao ps) (he : Env w) (hG : PsG ps) (h2 : opsN ps ≤ 200) (hq : FinIs (fdP ps) qs) (hs : Sn w ra ma rs ms) (h32 : rs.length ≤ 32) (h256 : ms.length ≤ 256) (hr : ∀ x ∈ rs, In64 x) (hm : ∀ x ∈ ms, In64 x) :
    Calls Tryz.prog 4 #[.agg #[.slice ao ps.length cap], .agg #[.slice ra rs.length rc, .slice ma ms.length mc], .int .i64 steps] w fun e w' => e = .returned (.bool true) ∧ Below w.heap.size w w' := by
  have HQ : Hid _ := bx_new w ao ra ma ps.length cap rs.length rc ms.length mc
  have HK : Hid (∀ W, Below w.heap.size w W → Calls Tryz.prog 6 #[] W fun e w' => e = .returned (.bool true) ∧ Below W.heap.size W w') := fun W hb => wakes_any W (he.up hb)
  have HC : Hid (∀ W, Below w.heap.size w W → Calls Tryz.prog 14 #[.agg #[.slice ao ps.length cap]] W fun e w' => e = .returned (.int .i64 0) ∧ Below W.heap.size W w') := fun W hb => by
    have := checkP_any ao cap ps W (h.below hb) (he.up hb)
    rw [hG.ck] at this
    exact this
  have HO : Hid (∀ W, Below w.heap.size w W → Calls Tryz.prog 11 #[.agg #[.slice ao ps.length cap]] W fun e w' => e = .returned (.int .i64 ((opsN ps : Nat) : Int)) ∧ Below W.heap.size W w') := fun W hb => ops_any ao cap ps W (h.below hb) (by have := hG.n; omega)
  have HF : Hid (∀ W, Below w.heap.size w W → Calls Tryz.prog 7 #[.agg #[.slice ao ps.length cap]] W fun e w' => ∃ a c, e = .returned (.tuple #[.agg #[.slice a ps.length c], .int .i64 0]) ∧ PAt w' a (fdP ps) ∧ Below W.heap.size W w') := fun W hb => fold_ok ao cap ps W (h.below hb) (he.up hb) hG
  have hfl : (fdP ps).length = ps.length := by simp [fdP]
  have HBu : Hid (∀ W a c, Below w.heap.size w W → PAt W a (fdP ps) → Calls Tryz.prog 12 #[.agg #[.slice a ps.length c]] W fun e w' => ∃ a c, e = .returned (.tuple #[.agg #[.slice a ps.length c], .int .i64 0]) ∧ PAt w' a qs ∧ Fin (fdP ps) qs ∧ Below W.heap.size W w') := fun W a c hb hp => by
    have := bury_ok qs a c (fdP ps) W hp (he.up hb) (psG_fold hG) hq
    rw [hfl] at this
    exact this
  have HSt : Hid (∀ W, Calls Tryz.prog 15 #[.int .i64 steps] W fun e w' => e = .returned (.int .i64 (stN steps)) ∧ w' = W) := fun W => Sm.steps_any steps W
  have HN1 : Hid (∀ W, Below w.heap.size w W → Calls Tryz.prog 16 #[.agg #[.slice ao ps.length cap], .agg #[.slice ra rs.length rc, .slice ma ms.length mc]] W (NewPost' W ps rs ms)) := fun W hb => Sm.new_ok' ao ra ma cap rc mc ps rs ms W (h.below hb) (he.up hb) hG.ck (hs.up hb) h32 h256 hr hm
  have HN2 : Hid (∀ W a c, Below w.heap.size w W → PAt W a qs → Fin (fdP ps) qs → Calls Tryz.prog 16 #[.agg #[.slice a ps.length c], .agg #[.slice ra rs.length rc, .slice ma ms.length mc]] W (NewPost' W qs rs ms)) := fun W a c hb hp hf => by
    obtain ⟨g1, g2, -⟩ := fin_g (psG_fold hG) hf
    have := Sm.new_ok' a ra ma c rc mc qs rs ms W hp (he.up hb) g1.ck (hs.up hb) h32 h256 hr hm
    rw [g2, hfl] at this
    exact this
  obtain ⟨f, hf⟩ : ∃ f : Nat, (min (max (stN steps) 0) 1048576).toNat = f := ⟨_, rfl⟩
  have hf5 : f ≤ 5000 := by
    have : stN steps ≤ 5000 := by unfold Sm.stN; split <;> omega
    omega
  have HBet : Hid (Fin (fdP ps) qs → Bet (runM ps f (initM rs ms)) (runM qs f (initM rs ms))) := fun hx => better_run hG hx f hr hm
  have HO1 : Hid (∀ W q T, MM W q ps T (initM rs ms) → Calls Tryz.prog 17 #[ptr q, .int .i64 (stN steps)] W (Ro W q ps T (runM ps f (initM rs ms)) (runM ps f (initM rs ms)).e (if (runM ps f (initM rs ms)).e = 0 then (runM ps f (initM rs ms)).v else 0) (runM ps f (initM rs ms)).pr (outMem (runM ps f (initM rs ms))) ((runM ps f (initM rs ms)).s : Int))) := fun W q T hmm => by
    have := Sm.run_any (stN steps) hmm (by rw [show (initM rs ms).s = 0 from rfl]; omega)
    rw [hf] at this
    exact this.mono fun e w' hh => ro_of (by omega) rfl hh
  have HO2 : Hid (∀ W q T, MM W q qs T (initM rs ms) → Calls Tryz.prog 17 #[ptr q, .int .i64 (stN steps)] W (Ro W q qs T (runM qs f (initM rs ms)) (runM qs f (initM rs ms)).e (if (runM qs f (initM rs ms)).e = 0 then (runM qs f (initM rs ms)).v else 0) (runM qs f (initM rs ms)).pr (outMem (runM qs f (initM rs ms))) ((runM qs f (initM rs ms)).s : Int))) := fun W q T hmm => by
    have := Sm.run_any (stN steps) hmm (by rw [show (initM rs ms).s = 0 from rfl]; omega)
    rw [hf] at this
    exact this.mono fun e w' hh => ro_of (by omega) rfl hh
  have HBe : Hid (Fin (fdP ps) qs → ((runM ps f (initM rs ms)).e ≠ 100 → (runM qs f (initM rs ms)).e = (runM ps f (initM rs ms)).e ∧ (if (runM qs f (initM rs ms)).e = 0 then (runM qs f (initM rs ms)).v else 0) = (if (runM ps f (initM rs ms)).e = 0 then (runM ps f (initM rs ms)).v else 0) ∧ (runM qs f (initM rs ms)).pr = (runM ps f (initM rs ms)).pr ∧ outMem (runM qs f (initM rs ms)) = outMem (runM ps f (initM rs ms)) ∧ ((runM qs f (initM rs ms)).s : Int) ≤ ((runM ps f (initM rs ms)).s : Int)) ∧ ((runM ps f (initM rs ms)).e = 100 → (runM ps f (initM rs ms)).pr <+: (runM qs f (initM rs ms)).pr)) := fun hx => by
    have hb := HBet.out hx
    refine ⟨fun q => ?_, hb.p⟩
    have hd := hb.d q
    have ho := dn_out hd
    exact ⟨hd.e, ho.1, hd.pr, ho.2, by have := hd.s; omega⟩
  have HNu : Hid (∀ a b c d (l : List Int) W, NL W a l → NL W b l → l.length ≤ 1000000000000 → Calls Tryz.prog 18 #[.slice a l.length c, .slice b l.length d] W fun e w' => e = .returned (.bool true) ∧ Below W.heap.size W w') := fun a b c d l W h1 h2 h3 => Sm.nums_same a b c d l W h1 h2 h3
  have ho : ¬ (200 : Int) < ((opsN ps : Nat) : Int) := by omega
  clear h he hG h2 hq hfl hs HBet hf hf5 hr hm
  generalize hM0 : initM rs ms = M0 at *
  generalize runM ps f M0 = M1 at *
  generalize runM qs f M0 = M2 at *
  generalize (if M1.e = 0 then M1.v else 0) = V1 at *
  generalize (if M2.e = 0 then M2.v else 0) = V2 at *
  generalize M1.e = E1 at *
  generalize M2.e = E2 at *
  generalize (M1.s : Int) = S1 at *
  generalize (M2.s : Int) = S2 at *
  generalize outMem M1 = k1 at *
  generalize outMem M2 = k2 at *
  generalize M1.pr = p1 at *
  generalize M2.pr = p2 at *
  have HM0 : Hid (initM rs ms = M0) := hM0
  clear hM0
  generalize stN steps = st at *
  generalize ((opsN ps : Nat) : Int) = on at *
  generalize ps.length = pl at *
  generalize rs.length = rl at *
  generalize ms.length = ml at *
  go_enter Tryz.func4, Tryz.ntmps4
  go_upto_region 4 with (first
    | (go_at_call 14; go_loud (refine Calls.mono (HC.out _ HQ.out.b) ?_; rintro e w1 ⟨rfl, b1⟩; have H1 : Hid _ := HQ.out.up b1; have c0 := H1.out.p.c 0 _ rfl; have cl := H1.out.p.lt; clear b1 HQ HC))
    | (go_at_call 11; go_loud (refine Calls.mono (HO.out _ H1.out.b) ?_; rintro e w2 ⟨rfl, b2⟩; have H2 : Hid _ := H1.out.up b2; have d0 := H2.out.p.c 0 _ rfl; have dl := H2.out.p.lt; clear b2 H1 HO c0 cl))
    | (go_at_call 7; go_loud (refine Calls.mono (HF.out _ H2.out.b) ?_; rintro e w3 ⟨a1, c1, rfl, hp1, b3⟩; have HP1 : Hid _ := hp1; have H3 : Hid _ := H2.out.up b3; clear hp1 b3 H2 HF d0 dl)))
  have b4 : Below w3.heap.size w3 (w3.alloc (.cells #[.slice a1 pl c1] 24)) := below_al _
  have H4 : Hid _ := H3.out.up b4
  have HP4 : Hid _ := HP1.out.below b4
  have HA4 : Hid _ := Op.At.new w3 #[.slice a1 pl c1] 24
  have s4 := HA4.out.c 0 _ rfl
  clear b4 H3 HP1
  generalize w3.alloc (.cells #[.slice a1 pl c1] 24) = w4 at *
  generalize w3.heap.size = t4 at *
  clear w3
  go_upto_region 5 with (first
    | (go_at_call 12; go_loud (refine Calls.mono (HBu.out _ _ _ H4.out.b HP4.out) ?_; rintro e w5 ⟨a2, c2, rfl, hp2, hfin, b5⟩; have HP5 : Hid _ := hp2; have HF5 : Hid _ := hfin; have H5 : Hid _ := H4.out.up b5; clear hp2 hfin b5 H4 HP4 HA4 HBu s4)))
  have b6 : Below w5.heap.size w5 (w5.alloc (.cells #[.slice a2 pl c2] 24)) := below_al _
  have H6 : Hid (Qx w (w5.alloc (.cells #[.slice a2 pl c2] 24)) ao pl cap ra ma rl rc ml mc w5.heap.size a2 c2 qs) := ⟨H5.out.up b6, HP5.out.below b6, Op.At.new w5 #[.slice a2 pl c2] 24⟩
  clear b6 H5 HP5
  generalize w5.alloc (.cells #[.slice a2 pl c2] 24) = w6 at *
  generalize w5.heap.size = t6 at *
  clear w5
  have c0 := H6.out.bx.p.c 0 _ rfl
  have cl := H6.out.bx.p.lt
  have d0 := H6.out.bx.s.c 0 _ rfl
  have d1 := H6.out.bx.s.c 1 _ rfl
  have dl := H6.out.bx.s.lt
  go_upto_region 9 with (first
    | (go_at_call 15; go_loud (refine Calls.mono (HSt.out _) ?_; rintro e w7 ⟨rfl, hw7⟩; subst w7))
    | (go_at_call 16; go_loud (refine Calls.mono (HN1.out _ H6.out.bx.b) ?_; rintro e w8 ⟨q1, rfl, hm8, b8, hq8, hk8⟩; rw [HM0.out] at hm8; have H8 : Hid (Qx w w8 ao pl cap ra ma rl rc ml mc t6 a2 c2 qs ∧ MM w8 q1 ps (One q1) M0 ∧ NoK w8 q1 ∧ w.heap.size + 2 ≤ q1) := ⟨H6.out.up b8, hm8, hk8, Nat.le_trans H6.out.bx.s.lt hq8⟩; clear b8 hm8 hk8 hq8 H6 HN1 c0 cl d0 d1 dl)))
  have e0 := H8.out.1.t.c 0 _ rfl
  have el := H8.out.1.t.lt
  have f0 := H8.out.1.bx.s.c 0 _ rfl
  have f1 := H8.out.1.bx.s.c 1 _ rfl
  have fl := H8.out.1.bx.s.lt
  go_upto_region 10 with (first
    | (go_at_call 16; go_loud (refine Calls.mono (HN2.out _ _ _ H8.out.1.bx.b H8.out.1.q HF5.out) ?_; rintro e w9 ⟨q2, rfl, hm9, b9, hq9, hk9⟩; rw [HM0.out] at hm9; have HD : Hid (D2 w w9 ao pl cap ra ma rl rc ml mc q1 q2 w9.heap.size ps qs (One q1) M0 M0) := Sm.D2.start H8.out.1.bx H8.out.2.1 H8.out.2.2.1 H8.out.2.2.2 b9 hm9 hq9; clear b9 hm9 hq9 hk9 H8 HN2 e0 el f0 f1 fl)))
  have hbe := HBe.out HF5.out
  have HX : Hid _ := hbe
  clear hbe HBe HF5 HM0 HSt
  go_upto_region 13 with (first
    | (go_at_call 17; go_loud (refine Calls.mono (HO1.out _ _ _ HD.out.m) ?_; rintro e wa ⟨a1, m1, c1, e1, T1, rfl, v1, v2, hma, hta, hp1, hk1, -⟩; have HDa : Hid (D2 w wa ao pl cap ra ma rl rc ml mc q1 q2 w9.heap.size ps qs T1 M1 M0 ∧ Sm.Own w9 wa a1 p1 ∧ Sm.Own w9 wa m1 k1) := ⟨HD.out.go hma hta, v1, v2⟩; have HL1 : Hid (p1.length ≤ 10000 ∧ k1.length ≤ 256) := ⟨hp1, hk1⟩; clear hma hta v1 v2 hp1 hk1 HO1 HD))
    | (go_at_call 17; go_loud (refine Calls.mono (HO2.out _ _ _ HDa.out.1.n') ?_; rintro e wb ⟨a2, m2, c2, e2, T2, rfl, v3, v4, hmb, htb, hp2, hk2, hc2⟩; have HZ : Hid (Z2 w ((wb.alloc (.cells #[.int .i64 E1, .int .i64 V1, .slice a1 p1.length c1, .slice m1 k1.length e1, .int .i64 S1] 42)).alloc (.cells #[.int .i64 E2, .int .i64 V2, .slice a2 p2.length c2, .slice m2 k2.length e2, .int .i64 S2] 42)) ao pl cap ra ma rl rc ml mc wb.heap.size (wb.heap.size + 1) #[.int .i64 E1, .int .i64 V1, .slice a1 p1.length c1, .slice m1 k1.length e1, .int .i64 S1] #[.int .i64 E2, .int .i64 V2, .slice a2 p2.length c2, .slice m2 k2.length e2, .int .i64 S2] a1 m1 a2 m2 p1 k1 p2 k2) := Sm.D2.both HDa.out.1 (Nat.le_refl _) HDa.out.2.1 HDa.out.2.2 htb v3 v4; have HL2 : Hid (p2.length ≤ 10000 ∧ p2.length ≤ c2) := ⟨hp2, hc2⟩; clear hmb htb v3 v4 hp2 hk2 hc2 HO2 HDa)))
  have hyx : ¬ wb.heap.size = wb.heap.size + 1 := by omega
  generalize (wb.alloc (.cells #[.int .i64 E1, .int .i64 V1, .slice a1 p1.length c1, .slice m1 k1.length e1, .int .i64 S1] 42)).alloc (.cells #[.int .i64 E2, .int .i64 V2, .slice a2 p2.length c2, .slice m2 k2.length e2, .int .i64 S2] 42) = Y at *
  generalize wb.heap.size + 1 = yb at *
  generalize wb.heap.size = xb at *
  clear wb
  have x0 := HZ.out.x1.c 0 _ rfl
  have xl := HZ.out.x1.lt
  by_cases hE : E1 = 100
  · subst hE
    have hpre := HX.out.2 rfl
    have hpn := hpre.length_le
    obtain ⟨l1, -⟩ := HL1.out
    obtain ⟨l2, l3⟩ := HL2.out
    have hpc : (p1.length : Int) ≤ (c2 : Int) := by omega
    have hpl : p1.length ≤ 1000000000000 := by omega
    have HPre : Hid (p1 <+: p2) := hpre
    have hge : (p1.length : Int) ≤ (p2.length : Int) := by omega
    have hp1i : (p1.length : Int) ≤ 10000 := by omega
    have hp2i : (p2.length : Int) ≤ 10000 := by omega
    go_upto_region 14 with fail
    clear x0 xl HX HL1 HL2
    have HZd : Hid (Z2 w Y.drew ao pl cap ra ma rl rc ml mc xb yb #[.int .i64 100, .int .i64 V1, .slice a1 p1.length c1, .slice m1 k1.length e1, .int .i64 S1] #[.int .i64 E2, .int .i64 V2, .slice a2 p2.length c2, .slice m2 k2.length e2, .int .i64 S2] a1 m1 a2 m2 p1 k1 p2 k2) := HZ.out.up (Below.refl _ _).drew
    clear HZ
    refine wp_region_held_drew (S := fun W' => Z2 w W' ao pl cap ra ma rl rc ml mc xb yb #[.int .i64 100, .int .i64 V1, .slice a1 p1.length c1, .slice m1 k1.length e1, .int .i64 S1] #[.int .i64 E2, .int .i64 V2, .slice a2 p2.length c2, .slice m2 k2.length e2, .int .i64 S2] a1 m1 a2 m2 p1 k1 p2 k2) (by kernel_rfl) HZd.out (fun hHeld => ?_)
    generalize Y.drew = XD at *
    refine wpAnyH_take (i := 0) (v := .pointer (some ⟨yb, 2, none⟩)) rfl (by kernel_rfl) (by kernel_rfl) (by kernel_rfl) (fun _ _ _ h => h) (Or.inl ⟨by rfl, fun w' hSw => by (go_simp)⟩) hHeld ?_
    simp only [Act.put, List.setIfInBounds_toArray, List.set_cons_zero, List.set_cons_succ, List.getElem_cons_zero, List.getElem_toArray]
    refine wpAnyH_take (i := 1) (v := .slice a2 p2.length c2) rfl (by kernel_rfl) (by kernel_rfl) (by kernel_rfl) (fun _ _ _ h => h) (Or.inl ⟨by rfl, fun w' hSw => by (have g0 := hSw.x2.c 2 _ rfl; have gl := hSw.x2.lt; clear hSw; go_simp)⟩) hHeld ?_
    simp only [Act.put, List.setIfInBounds_toArray, List.set_cons_zero, List.set_cons_succ, List.getElem_cons_zero, List.getElem_cons_succ, List.getElem_toArray]
    refine wpAnyH_take (i := 2) (v := .int .i64 (p2.length : Int)) rfl (by kernel_rfl) (by kernel_rfl) (by kernel_rfl) (fun _ _ _ h => h) (Or.inl ⟨by rfl, fun w' hSw => by (go_simp)⟩) hHeld ?_
    simp only [Act.put, List.setIfInBounds_toArray, List.set_cons_zero, List.set_cons_succ, List.getElem_cons_zero, List.getElem_cons_succ, List.getElem_toArray]
    refine wpAnyH_take (i := 3) (v := .pointer (some ⟨xb, 2, none⟩)) rfl (by kernel_rfl) (by kernel_rfl) (by kernel_rfl) (fun _ _ _ h => h) (Or.inl ⟨by rfl, fun w' hSw => by (go_simp)⟩) hHeld ?_
    simp only [Act.put, List.setIfInBounds_toArray, List.set_cons_zero, List.set_cons_succ, List.getElem_cons_zero, List.getElem_cons_succ, List.getElem_toArray]
    refine wpAnyH_take (i := 4) (v := .slice a1 p1.length c1) rfl (by kernel_rfl) (by kernel_rfl) (by kernel_rfl) (fun _ _ _ h => h) (Or.inl ⟨by rfl, fun w' hSw => by (have g0 := hSw.x1.c 2 _ rfl; have gl := hSw.x1.lt; clear hSw; go_simp)⟩) hHeld ?_
    simp only [Act.put, List.setIfInBounds_toArray, List.set_cons_zero, List.set_cons_succ, List.getElem_cons_zero, List.getElem_cons_succ, List.getElem_toArray]
    refine wpAnyH_take (i := 5) (v := .int .i64 (p1.length : Int)) rfl (by kernel_rfl) (by kernel_rfl) (by kernel_rfl) (fun _ _ _ h => h) (Or.inl ⟨by rfl, fun w' hSw => by (go_simp)⟩) hHeld ?_
    simp only [Act.put, List.setIfInBounds_toArray, List.set_cons_zero, List.set_cons_succ, List.getElem_cons_zero, List.getElem_cons_succ, List.getElem_toArray]
    refine wpAnyH_take (i := 6) (v := .bool true) rfl (by kernel_rfl) (by kernel_rfl) (by kernel_rfl) (fun _ _ _ h => h) (Or.inl ⟨by rfl, fun w' hSw => by (have h0 := hge; clear hSw; go_simp)⟩) hHeld ?_
    simp only [Act.put, List.setIfInBounds_toArray, List.set_cons_zero, List.set_cons_succ, List.getElem_cons_zero, List.getElem_cons_succ, List.getElem_toArray]
    refine wpAnyH_take (i := 7) (v := .bool true) rfl (by kernel_rfl) (by kernel_rfl) (by kernel_rfl) (fun _ _ _ h => h) (Or.inl ⟨by rfl, fun w' hSw => by (go_simp)⟩) hHeld ?_
    simp only [Act.put, List.setIfInBounds_toArray, List.set_cons_zero, List.set_cons_succ, List.getElem_cons_zero, List.getElem_cons_succ, List.getElem_toArray]
    refine wpAnyH_take (i := 8) (v := .pointer (some ⟨xb, 2, none⟩)) rfl (by kernel_rfl) (by kernel_rfl) (by kernel_rfl) (fun _ _ _ h => h) (Or.inl ⟨by rfl, fun w' hSw => by (go_simp)⟩) hHeld ?_
    simp only [Act.put, List.setIfInBounds_toArray, List.set_cons_zero, List.set_cons_succ, List.getElem_cons_zero, List.getElem_cons_succ, List.getElem_toArray]
    refine wpAnyH_take (i := 9) (v := .slice a1 p1.length c1) rfl (by kernel_rfl) (by kernel_rfl) (by kernel_rfl) (fun _ _ _ h => h) (Or.inl ⟨by rfl, fun w' hSw => by (have g0 := hSw.x1.c 2 _ rfl; have gl := hSw.x1.lt; clear hSw; go_simp)⟩) hHeld ?_
    simp only [Act.put, List.setIfInBounds_toArray, List.set_cons_zero, List.set_cons_succ, List.getElem_cons_zero, List.getElem_cons_succ, List.getElem_toArray]
    refine wpAnyH_take (i := 10) (v := .pointer (some ⟨yb, 2, none⟩)) rfl (by kernel_rfl) (by kernel_rfl) (by kernel_rfl) (fun _ _ _ h => h) (Or.inl ⟨by rfl, fun w' hSw => by (go_simp)⟩) hHeld ?_
    simp only [Act.put, List.setIfInBounds_toArray, List.set_cons_zero, List.set_cons_succ, List.getElem_cons_zero, List.getElem_cons_succ, List.getElem_toArray]
    refine wpAnyH_take (i := 11) (v := .slice a2 p2.length c2) rfl (by kernel_rfl) (by kernel_rfl) (by kernel_rfl) (fun _ _ _ h => h) (Or.inl ⟨by rfl, fun w' hSw => by (have g0 := hSw.x2.c 2 _ rfl; have gl := hSw.x2.lt; clear hSw; go_simp)⟩) hHeld ?_
    simp only [Act.put, List.setIfInBounds_toArray, List.set_cons_zero, List.set_cons_succ, List.getElem_cons_zero, List.getElem_cons_succ, List.getElem_toArray]
    refine wpAnyH_take (i := 12) (v := .pointer (some ⟨xb, 2, none⟩)) rfl (by kernel_rfl) (by kernel_rfl) (by kernel_rfl) (fun _ _ _ h => h) (Or.inl ⟨by rfl, fun w' hSw => by (go_simp)⟩) hHeld ?_
    simp only [Act.put, List.setIfInBounds_toArray, List.set_cons_zero, List.set_cons_succ, List.getElem_cons_zero, List.getElem_cons_succ, List.getElem_toArray]
    refine wpAnyH_take (i := 13) (v := .slice a1 p1.length c1) rfl (by kernel_rfl) (by kernel_rfl) (by kernel_rfl) (fun _ _ _ h => h) (Or.inl ⟨by rfl, fun w' hSw => by (have g0 := hSw.x1.c 2 _ rfl; have gl := hSw.x1.lt; clear hSw; go_simp)⟩) hHeld ?_
    simp only [Act.put, List.setIfInBounds_toArray, List.set_cons_zero, List.set_cons_succ, List.getElem_cons_zero, List.getElem_cons_succ, List.getElem_toArray]
    refine wpAnyH_take (i := 14) (v := .int .i64 (p1.length : Int)) rfl (by kernel_rfl) (by kernel_rfl) (by kernel_rfl) (fun _ _ _ h => h) (Or.inl ⟨by rfl, fun w' hSw => by (go_simp)⟩) hHeld ?_
    simp only [Act.put, List.setIfInBounds_toArray, List.set_cons_zero, List.set_cons_succ, List.getElem_cons_zero, List.getElem_cons_succ, List.getElem_toArray]
    refine wpAnyH_take (i := 15) (v := .slice a2 p1.length c2) rfl (by kernel_rfl) (by kernel_rfl) (by kernel_rfl) (fun _ _ _ h => h) (Or.inl ⟨by rfl, fun w' hSw => by (have h0 := hpc; clear hSw; go_simp)⟩) hHeld ?_
    simp only [Act.put, List.setIfInBounds_toArray, List.set_cons_zero, List.set_cons_succ, List.getElem_cons_zero, List.getElem_cons_succ, List.getElem_toArray]
    refine wpAnyH_ready (rs := [16]) (by kernel_rfl) (by simp) ?_
    refine AllReadyH.cons rfl (fun K hK => ?_) AllReadyH.nil
    go_simp
    refine Calls.mono (HNu.out _ _ _ _ _ _ HZd.out.a1 (nl_pre HZd.out.a2 HPre.out) hpl) ?_
    rintro e wa ⟨rfl, ba⟩
    have HA : Hid (Z2 w wa ao pl cap ra ma rl rc ml mc xb yb #[.int .i64 100, .int .i64 V1, .slice a1 p1.length c1, .slice m1 k1.length e1, .int .i64 S1] #[.int .i64 E2, .int .i64 V2, .slice a2 p2.length c2, .slice m2 k2.length e2, .int .i64 S2] a1 m1 a2 m2 p1 k1 p2 k2) := HZd.out.up ba
    clear ba HZd
    refine hK.out _ _ HA.out (fun hHeld => ?_)
    clear hK K
    refine wpAnyH_take (i := 17) (v := .bool true) rfl (by kernel_rfl) (by kernel_rfl) (by kernel_rfl) (fun _ _ _ h => h) (Or.inl ⟨by rfl, fun w' hSw => by (go_simp)⟩) hHeld ?_
    simp only [Act.put, List.setIfInBounds_toArray, List.set_cons_zero, List.set_cons_succ, List.getElem_cons_zero, List.getElem_cons_succ, List.getElem_toArray]
    refine wpAnyH_take (i := 18) (v := .bool true) rfl (by kernel_rfl) (by kernel_rfl) (by kernel_rfl) (fun _ _ _ h => h) (Or.inl ⟨by rfl, fun w' hSw => by (go_simp)⟩) hHeld ?_
    simp only [Act.put, List.setIfInBounds_toArray, List.set_cons_zero, List.set_cons_succ, List.getElem_cons_zero, List.getElem_cons_succ, List.getElem_toArray]
    refine wpAnyH_ready (rs := [19]) (by kernel_rfl) (by simp) ?_
    refine AllReadyH.cons rfl (fun K hK => ?_) AllReadyH.nil
    go_simp
    refine Calls.mono (HK.out _ HA.out.bx.b) ?_
    rintro e wb ⟨rfl, bb⟩
    have HB : Hid (Z2 w wb ao pl cap ra ma rl rc ml mc xb yb #[.int .i64 100, .int .i64 V1, .slice a1 p1.length c1, .slice m1 k1.length e1, .int .i64 S1] #[.int .i64 E2, .int .i64 V2, .slice a2 p2.length c2, .slice m2 k2.length e2, .int .i64 S2] a1 m1 a2 m2 p1 k1 p2 k2) := HA.out.up bb
    clear bb HA HK
    refine hK.out _ _ HB.out (fun hHeld => ?_)
    clear hK K
    refine wpAnyH_take (i := 20) (v := .bool true) rfl (by kernel_rfl) (by kernel_rfl) (by kernel_rfl) (fun _ _ _ h => h) (Or.inl ⟨by rfl, fun w' hSw => by (go_simp)⟩) hHeld ?_
    simp only [Act.put, List.setIfInBounds_toArray, List.set_cons_zero, List.set_cons_succ, List.getElem_cons_zero, List.getElem_cons_succ, List.getElem_toArray]
    refine wpAnyH_take (i := 21) (v := .bool true) rfl (by kernel_rfl) (by kernel_rfl) (by kernel_rfl) (fun _ _ _ h => h) (Or.inl ⟨by rfl, fun w' hSw => by (go_simp)⟩) hHeld ?_
    simp only [Act.put, List.setIfInBounds_toArray, List.set_cons_zero, List.set_cons_succ, List.getElem_cons_zero, List.getElem_cons_succ, List.getElem_toArray]
    refine wpAnyH_done (by kernel_rfl) ?_ _
    clear hHeld
    go_wp2_with fail
    go_ret
    exact ⟨rfl, HB.out.bx.b⟩

  · obtain ⟨rfl, rfl, rfl, rfl, hS⟩ := HX.out.1 hE
    have hE' : (E2 == 100) = false := by simpa using hE
    have x1 := HZ.out.x1.c 1 _ rfl
    have x2 := HZ.out.x1.c 2 _ rfl
    have x3 := HZ.out.x1.c 3 _ rfl
    have x4 := HZ.out.x1.c 4 _ rfl
    have y0 := HZ.out.x2.c 0 _ rfl
    have y1 := HZ.out.x2.c 1 _ rfl
    have y2 := HZ.out.x2.c 2 _ rfl
    have y3 := HZ.out.x2.c 3 _ rfl
    have y4 := HZ.out.x2.c 4 _ rfl
    have yl := HZ.out.x2.lt
    have hp2 : p2.length ≤ 1000000000000 := by have := HL1.out.1; omega
    have hk2 : k2.length ≤ 1000000000000 := by have := HL1.out.2; omega
    clear HX HL1 HL2
    go_wp2_with (first
      | (go_at_call 18; go_loud (refine Calls.mono (HNu.out _ _ _ _ _ _ HZ.out.a1 HZ.out.a2 hp2) ?_; rintro e wc ⟨rfl, bc⟩; have HZ2 : Hid _ := HZ.out.up bc; have x3 := HZ2.out.x1.c 3 _ rfl; have x4 := HZ2.out.x1.c 4 _ rfl; have y3 := HZ2.out.x2.c 3 _ rfl; have y4 := HZ2.out.x2.c 4 _ rfl; have xl := HZ2.out.x1.lt; have yl := HZ2.out.x2.lt; clear bc HZ hp2 x0 x1 x2 y0 y1 y2))
      | (go_at_call 18; go_loud (refine Calls.mono (HNu.out _ _ _ _ _ _ HZ2.out.m1 HZ2.out.m2 hk2) ?_; rintro e wd ⟨rfl, bd⟩; have HZ3 : Hid _ := HZ2.out.up bd; have x4 := HZ3.out.x1.c 4 _ rfl; have y4 := HZ3.out.x2.c 4 _ rfl; clear bd HZ2 hk2 x3 y3 HNu))
      | (go_at_call 6; go_loud (refine Calls.mono (HK.out _ HZ3.out.bx.b) ?_; rintro e wf ⟨rfl, bf⟩; have HF : Hid (Below w.heap.size w wf) := (HZ3.out.up bf).bx.b; clear bf HZ3 HK x4 y4)))
    go_ret
    exact ⟨rfl, HF.out⟩
end Go.Proofs.YtddcndlogoajkaaGreatDoor.L8.Bt
namespace Go.Proofs.YtddcndlogoajkaaGreatDoor.L8.Bt
open Go.ChangeShapes Go.WideShapes Go.ChangeAt Go.RowKit
open _root_.Go.Proofs.YtddcndlogoajkaaGreatDoor.L8.So _root_.Go.Proofs.YtddcndlogoajkaaGreatDoor.L8.Op
open _root_.Go.Proofs.YtddcndlogoajkaaGreatDoor.L8.Lv (psOk_of)
open _root_.Go.Proofs.YtddcndlogoajkaaGreatDoor.L8.Sm (Sn In64)
set_option maxRecDepth 20000

theorem law_same (ao ra ma : Option Addr) (cap rc mc : Nat) (ps : List Bk) (rs ms : List Int) (steps : Int) (w : World) (h : PAt w ao ps) (he : Env w) (hs : Sn w ra ma rs ms) (hr : ∀ x ∈ rs, In64 x) (hm : ∀ x ∈ ms, In64 x) :
    Calls Tryz.prog 4 #[.agg #[.slice ao ps.length cap], .agg #[.slice ra rs.length rc, .slice ma ms.length mc], .int .i64 steps] w fun e w' => e = .returned (.bool true) ∧ Below w.heap.size w w' := by
  by_cases hn : ckP ps ≠ 0 ∨ 200 < opsN ps
  · exact same_no ao ra ma cap rs.length rc ms.length mc ps steps w h he hn
  · have hG : PsG ps := psG_of (psOk_of h) (Classical.byContradiction fun q => hn (.inl q))
    have h2 : opsN ps ≤ 200 := by omega
    obtain ⟨qs, hq⟩ := fin_ex (fdP ps)
    by_cases hg : 32 < rs.length ∨ 256 < ms.length
    · exact same_great qs ao ra ma cap rs.length rc ms.length mc ps steps w h he hG h2 hq hg
    · exact same_main qs ao ra ma cap rc mc ps rs ms steps w h he hG h2 hq hs (by omega) (by omega) hr hm
end Go.Proofs.YtddcndlogoajkaaGreatDoor.L8.Bt
