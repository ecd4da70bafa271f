/- What BundleTells answers: true. Conditions: bundles, words and the table's bounds lie in memory. -/
import Derived.Test.YtckjioiijmmopaaDoorWy
namespace Go.Proofs.YtckjioiijmmopaaDoor.Bu
open Go.ChangeShapes Go.WideShapes Go.ChangeAt Go.RowKit
open _root_.Go.Proofs.YtckjioiijmmopaaDoor.Op
open _root_.Go.Proofs.YtckjioiijmmopaaDoor.Tb (Tab TabAt Bnds four tabAt_new ckR)
open _root_.Go.Proofs.YtckjioiijmmopaaDoor.So
set_option maxRecDepth 20000

def NE (t : Tab) (ls : List Bn) : Nat := if enE t ls = 0 then ls.length * ofs t 4 else 0
theorem ws_nil (W : World) (v : Nat → Int) : Ws W none 0 v := ⟨fun j hj => absurd hj (by omega), fun h => absurd h (by omega)⟩
theorem bs_nil (W : World) (a : Option Addr) : BsAt W a [] := ⟨by simp, fun h => by simp at h⟩
theorem enc_uni (ao : Option Addr) (cap : Nat) (ls : List Bn) (t : Tab) (w : World) (hx : BsAt w ao ls) (hG : Bnds w) :
    Calls Tryd.prog 7 #[.slice ao ls.length cap, t.val] w fun e w' => ∃ a c, e = .returned (.tuple #[.slice a (NE t ls) c, .int .i64 (enE t ls)]) ∧ Ws w' a (NE t ls) (fun j => (encW t ls).getD j 0) ∧ Below w.heap.size w w' := by
  by_cases h : enE t ls = 0
  · have e : NE t ls = ls.length * ofs t 4 := by unfold NE; rw [if_pos h]
    rw [e, h]
    refine (enc_yes ao cap ls t w hx hG h).mono fun e w' ⟨b, h1, h2, _, h4⟩ => ⟨_, _, h1, h2.ws (enc_in (bs_ok hx) (enE_ok h).2.2), h4⟩
  · have e : NE t ls = 0 := by unfold NE; rw [if_neg h]
    rw [e]
    refine (enc_no ao cap ls t w hx hG h).mono fun e w' ⟨h1, h2⟩ => ⟨_, _, h1, ws_nil _ _, h2⟩
theorem renc_uni (ao : Option Addr) (cap : Nat) (ls : List Bn) (t : Tab) (w : World) (hx : BsAt w ao ls) :
    Calls Tryd.prog 8 #[.slice ao ls.length cap, t.val] w fun e w' => ∃ a c, e = .returned (.tuple #[.slice a (NE t ls) c, .int .i64 (enE t ls)]) ∧ Ws w' a (NE t ls) (fun j => (encW t ls).getD j 0) ∧ Below w.heap.size w w' := by
  cases ht : t.ok
  · have e1 : enE t ls = 20 := by simp [enE, ht]
    rw [show NE t ls = 0 by simp [NE, e1], e1]
    refine (renc_table ao cap ls t w ht).mono fun e w' ⟨h1, h2⟩ => ⟨_, _, h1, ws_nil _ _, h2⟩
  · by_cases hl : 65536 < ls.length
    · have e1 : enE t ls = 3 := by simp [enE, ht, hl]
      rw [show NE t ls = 0 by simp [NE, e1], e1]
      refine (renc_long ao cap ls t w ht hl).mono fun e w' ⟨h1, h2⟩ => ⟨_, _, h1, ws_nil _ _, h2⟩
    · have := renc_any ao cap ls t w hx ht (by omega)
      unfold RnOut at this
      cases hw : allW t ls
      · have e1 : enE t ls = 210 := by simp [enE, ht, hl, hw]
        rw [show NE t ls = 0 by simp [NE, e1], e1]
        rw [hw] at this
        refine this.mono fun e w' ⟨h1, h2⟩ => ⟨_, _, h1, ws_nil _ _, h2⟩
      · have e1 : enE t ls = 0 := by simp [enE, ht, hl, hw]
        rw [show NE t ls = ls.length * ofs t 4 by simp [NE, e1], e1]
        rw [hw] at this
        exact this
def LD (t : Tab) (v : Nat → Int) (n : Nat) : List Bn := if deE t v n = 0 then deL t v (n / ofs t 4) else []
theorem dec_uni (ao : Option Addr) (n cap : Nat) (v : Nat → Int) (t : Tab) (w : World) (hx : Ws w ao n v) (hc : n ≤ cap) (hG : Bnds w) (hn : n ≤ 17592186044416) :
    Calls Tryd.prog 9 #[.slice ao n cap, t.val] w fun e w' => ∃ a c, e = .returned (.tuple #[.slice a (LD t v n).length c, .int .i64 (deE t v n)]) ∧ BsAt w' a (LD t v n) ∧ Below w.heap.size w w' := by
  by_cases h : deE t v n = 0
  · have e : LD t v n = deL t v (n / ofs t 4) := by unfold LD; rw [if_pos h]
    rw [e, h, deL_len]
    refine (dec_yes ao n cap v t w hx hc hG hn h).mono fun e w' ⟨b, h1, h2, h3⟩ => ⟨_, _, h1, h2, h3⟩
  · have e : LD t v n = [] := by unfold LD; rw [if_neg h]
    rw [e]
    refine (dec_no ao n cap v t w hx hc hG hn h).mono fun e w' ⟨h1, h2⟩ => ⟨_, _, h1, bs_nil _ _, h2⟩
theorem rdec_uni (ao : Option Addr) (n cap : Nat) (v : Nat → Int) (t : Tab) (w : World) (hx : Ws w ao n v) (hc : n ≤ cap) (hn : n ≤ 17592186044416) :
    Calls Tryd.prog 10 #[.slice ao n cap, t.val] w fun e w' => ∃ a c, e = .returned (.tuple #[.slice a (LD t v n).length c, .int .i64 (deE t v n)]) ∧ BsAt w' a (LD t v n) ∧ Below w.heap.size w w' := by
  cases ht : t.ok
  · have e1 : deE t v n = 20 := by simp [deE, ht]
    rw [show LD t v n = [] by simp [LD, e1], e1]
    refine (rdec_table ao n cap t w ht).mono fun e w' ⟨h1, h2⟩ => ⟨_, _, h1, bs_nil _ _, h2⟩
  · by_cases h0 : n = 0
    · subst h0
      have e1 : deE t v 0 = 0 := by simp [deE, ht, deB]
      rw [show LD t v 0 = [] by simp [LD, e1, deL], e1]
      refine (rdec_none ao cap t w ht).mono fun e w' ⟨h1, h2⟩ => ⟨_, _, h1, bs_nil _ _, h2⟩
    · by_cases hm : n % ofs t 4 = 0
      · by_cases hl : 65536 < n / ofs t 4
        · have e1 : deE t v n = 3 := by simp [deE, ht, hm, hl]
          rw [show LD t v n = [] by simp [LD, e1], e1]
          refine (rdec_long ao n cap t w ht hn h0 hm hl).mono fun e w' ⟨h1, h2⟩ => ⟨_, _, h1, bs_nil _ _, h2⟩
        · have := rdec_any ao n cap v t w hx hc ht hn h0 hm (by omega)
          unfold RdeOut at this
          cases hw : deB t v (n / ofs t 4)
          · have e1 : deE t v n = 210 := by simp [deE, ht, hl, hw, hm]
            rw [show LD t v n = [] by simp [LD, e1], e1]
            rw [hw] at this
            refine this.mono fun e w' ⟨h1, h2⟩ => ⟨_, _, h1, bs_nil _ _, h2⟩
          · have e1 : deE t v n = 0 := by simp [deE, ht, hl, hw, hm]
            rw [show LD t v n = deL t v (n / ofs t 4) by simp [LD, e1], e1, deL_len]
            rw [hw] at this
            exact this
      · have e1 : deE t v n = 210 := by simp [deE, ht, hm]
        rw [show LD t v n = [] by simp [LD, e1], e1]
        refine (rdec_odd ao n cap t w ht h0 hm).mono fun e w' ⟨h1, h2⟩ => ⟨_, _, h1, bs_nil _ _, h2⟩
theorem NE_le {t : Tab} {ls : List Bn} : NE t ls ≤ 2097152 := by
  unfold NE
  split
  · rename_i h
    obtain ⟨h1, h2, -⟩ := enE_ok h
    exact Nat.mul_le_mul h2 (ofs_le h1)
  · omega
set_option maxHeartbeats 4000000 in
theorem law_tells (ao : Option Addr) (cap : Nat) (ls : List Bn) (bo : Option Addr) (n bcap : Nat) (v : Nat → Int) (t : Tab) (w : World) (hx : BsAt w ao ls) (hy : Ws w bo n v) (hc : n ≤ bcap) (hn : n ≤ 17592186044416) (hG : Bnds w) :
    Calls Tryd.prog 3 #[.slice ao ls.length cap, .slice bo n bcap, t.val] w fun e w' => e = .returned (.bool true) ∧ Below w.heap.size w w' := by
  have HK : Hid (∀ W, Below w.heap.size w W → Calls Tryd.prog 15 #[] W fun e w' => e = .returned (.bool true) ∧ Below W.heap.size W w') := fun W hb => wakes_any W (hG.below hb hG.big)
  have H7 : Hid (∀ W, Below w.heap.size w W → Calls Tryd.prog 7 #[.slice ao ls.length cap, t.val] W fun e w' => ∃ a c, e = .returned (.tuple #[.slice a (NE t ls) c, .int .i64 (enE t ls)]) ∧ Ws w' a (NE t ls) (fun j => (encW t ls).getD j 0) ∧ Below W.heap.size W w') := fun W hb => enc_uni ao cap ls t W (hx.below hb) (hG.below hb hG.big)
  have H8 : Hid (∀ W, Below w.heap.size w W → Calls Tryd.prog 8 #[.slice ao ls.length cap, t.val] W fun e w' => ∃ a c, e = .returned (.tuple #[.slice a (NE t ls) c, .int .i64 (enE t ls)]) ∧ Ws w' a (NE t ls) (fun j => (encW t ls).getD j 0) ∧ Below W.heap.size W w') := fun W hb => renc_uni ao cap ls t W (hx.below hb)
  have H9 : Hid (∀ W, Below w.heap.size w W → Calls Tryd.prog 9 #[.slice bo n bcap, t.val] W fun e w' => ∃ a c, e = .returned (.tuple #[.slice a (LD t v n).length c, .int .i64 (deE t v n)]) ∧ BsAt w' a (LD t v n) ∧ Below W.heap.size W w') := fun W hb => dec_uni bo n bcap v t W (hy.below hb) hc (hG.below hb hG.big) hn
  have H10 : Hid (∀ W, Below w.heap.size w W → Calls Tryd.prog 10 #[.slice bo n bcap, t.val] W fun e w' => ∃ a c, e = .returned (.tuple #[.slice a (LD t v n).length c, .int .i64 (deE t v n)]) ∧ BsAt w' a (LD t v n) ∧ Below W.heap.size W w') := fun W hb => rdec_uni bo n bcap v t W (hy.below hb) hc hn
  have HWo : Hid (∀ a b c d W, Ws W a (NE t ls) (fun j => (encW t ls).getD j 0) → Ws W b (NE t ls) (fun j => (encW t ls).getD j 0) → Calls Tryd.prog 13 #[.slice a (NE t ls) c, .slice b (NE t ls) d] W fun e w' => e = .returned (.bool true) ∧ Below W.heap.size W w') := fun a b c d W h1 h2 => by
    have := words_any a b (NE t ls) (NE t ls) c d _ _ W h1 h2 (by have := NE_le (t := t) (ls := ls); omega) (by have := NE_le (t := t) (ls := ls); omega)
    rw [eqB_yes fun _ _ => rfl] at this
    exact this
  have HSa : Hid (∀ a b c d W, BsAt W a (LD t v n) → BsAt W b (LD t v n) → Calls Tryd.prog 14 #[.slice a (LD t v n).length c, .slice b (LD t v n).length d] W fun e w' => e = .returned (.bool true) ∧ Below W.heap.size W w') := fun a b c d W h1 h2 => same_any a b c d _ _ true W h1 h2 ⟨fun _ => ⟨rfl, fun _ _ _ _ _ => rfl⟩, fun _ => rfl⟩
  have HBs : Hid (BsAt w ao ls) := hx
  have HG : Hid (Bnds w) := hG
  have hll := hx.len
  obtain ⟨e0, e1⟩ := enE_in t ls
  obtain ⟨d0, d1⟩ := deE_in t v n
  clear hx hy hc hn hG
  unfold Tab.val at *
  generalize encW t ls = EW at *
  generalize NE t ls = NN at *
  generalize enE t ls = ee at *
  generalize deE t v n = dd at *
  obtain ⟨DL, hDL⟩ : ∃ DL, LD t v n = DL := ⟨_, rfl⟩
  rw [hDL] at H9 H10 HSa
  clear hDL
  go_enter Tryd.func3, Tryd.ntmps3
  go_upto_region 5 with (first
    | (go_at_call 7; refine Calls.mono (H7.out _ (by go_grown)) ?_; rintro e w1 ⟨a1, c1, rfl, hw1, hb⟩; have HS1 : Hid (TabAt w1 w.heap.size t ∧ Below w.heap.size w w1 ∧ Ws w1 a1 NN (fun j => EW.getD j 0)) := ⟨(tabAt_new w t 26).below hb (by simp), (by go_grown : Below w.heap.size w (w.alloc (.cells t.cells 26))).trans (hb.mono (by simp)), hw1⟩; clear hb hw1; have k2 := HS1.out.1; have qu0 := k2.cu 0 (by decide); have qu1 := k2.cu 1 (by decide); have qu2 := k2.cu 2 (by decide); have qu3 := k2.cu 3 (by decide); have ql0 := k2.cl 0 (by decide); have ql1 := k2.cl 1 (by decide); have ql2 := k2.cl 2 (by decide); have ql3 := k2.cl 3 (by decide); have qb0 := k2.cb 0 (by decide); have qb1 := k2.cb 1 (by decide); have qb2 := k2.cb 2 (by decide); have qb3 := k2.cb 3 (by decide); have qd := k2.cd; have qz := k2.lt; clear k2)
    | (go_at_call 8; refine Calls.mono (H8.out _ HS1.out.2.1) ?_; rintro e w2 ⟨a2, c2, rfl, hw2, hb⟩; have HS2 : Hid (TabAt w2 w.heap.size t ∧ Below w.heap.size w w2 ∧ Ws w2 a1 NN (fun j => EW.getD j 0) ∧ Ws w2 a2 NN (fun j => EW.getD j 0)) := ⟨HS1.out.1.below hb HS1.out.1.lt, HS1.out.2.1.trans (hb.mono HS1.out.2.1.size), HS1.out.2.2.below hb, hw2⟩; clear hb hw2 qu0 qu1 qu2 qu3 ql0 ql1 ql2 ql3 qb0 qb1 qb2 qb3 qd qz; have k2 := HS2.out.1; have qu0 := k2.cu 0 (by decide); have qu1 := k2.cu 1 (by decide); have qu2 := k2.cu 2 (by decide); have qu3 := k2.cu 3 (by decide); have ql0 := k2.cl 0 (by decide); have ql1 := k2.cl 1 (by decide); have ql2 := k2.cl 2 (by decide); have ql3 := k2.cl 3 (by decide); have qb0 := k2.cb 0 (by decide); have qb1 := k2.cb 1 (by decide); have qb2 := k2.cb 2 (by decide); have qb3 := k2.cb 3 (by decide); have qd := k2.cd; have qz := k2.lt; clear k2)
    | (go_at_call 9; refine Calls.mono (H9.out _ HS2.out.2.1) ?_; rintro e w3 ⟨a3, c3, rfl, hw3, hb⟩; have HS3 : Hid (TabAt w3 w.heap.size t ∧ Below w.heap.size w w3 ∧ Ws w3 a1 NN (fun j => EW.getD j 0) ∧ Ws w3 a2 NN (fun j => EW.getD j 0) ∧ BsAt w3 a3 DL) := ⟨HS2.out.1.below hb HS2.out.1.lt, HS2.out.2.1.trans (hb.mono HS2.out.2.1.size), HS2.out.2.2.1.below hb, HS2.out.2.2.2.below hb, hw3⟩; clear hb hw3 qu0 qu1 qu2 qu3 ql0 ql1 ql2 ql3 qb0 qb1 qb2 qb3 qd qz; have k2 := HS3.out.1; have qu0 := k2.cu 0 (by decide); have qu1 := k2.cu 1 (by decide); have qu2 := k2.cu 2 (by decide); have qu3 := k2.cu 3 (by decide); have ql0 := k2.cl 0 (by decide); have ql1 := k2.cl 1 (by decide); have ql2 := k2.cl 2 (by decide); have ql3 := k2.cl 3 (by decide); have qb0 := k2.cb 0 (by decide); have qb1 := k2.cb 1 (by decide); have qb2 := k2.cb 2 (by decide); have qb3 := k2.cb 3 (by decide); have qd := k2.cd; have qz := k2.lt; clear k2)
    | (go_at_call 10; refine Calls.mono (H10.out _ HS3.out.2.1) ?_; rintro e w4 ⟨a4, c4, rfl, hw4, hb⟩; have HS4 : Hid (TabAt w4 w.heap.size t ∧ Below w.heap.size w w4 ∧ Ws w4 a1 NN (fun j => EW.getD j 0) ∧ Ws w4 a2 NN (fun j => EW.getD j 0) ∧ BsAt w4 a3 DL ∧ BsAt w4 a4 DL) := ⟨HS3.out.1.below hb HS3.out.1.lt, HS3.out.2.1.trans (hb.mono HS3.out.2.1.size), HS3.out.2.2.1.below hb, HS3.out.2.2.2.1.below hb, HS3.out.2.2.2.2.below hb, hw4⟩; clear hb hw4 qu0 qu1 qu2 qu3 ql0 ql1 ql2 ql3 qb0 qb1 qb2 qb3 qd qz))
  clear HS1 HS2 HS3 H7 H8 H9 H10
  by_cases hl0 : ls.length = 0
  · have hl0' : (ls.length : Int) = 0 := by omega
    rw [hl0] at *
    go_quiet (fail)
    have HS6 : Hid (Below w.heap.size w (w4.drewN nq) ∧ Ws (w4.drewN nq) a1 NN (fun j => EW.getD j 0) ∧ Ws (w4.drewN nq) a2 NN (fun j => EW.getD j 0) ∧ BsAt (w4.drewN nq) a3 DL ∧ BsAt (w4.drewN nq) a4 DL) := ⟨drewN_bu HS4.out.2.1 nq, HS4.out.2.2.1.below (drewN_bu (Below.refl _ _) nq), HS4.out.2.2.2.1.below (drewN_bu (Below.refl _ _) nq), HS4.out.2.2.2.2.1.below (drewN_bu (Below.refl _ _) nq), HS4.out.2.2.2.2.2.below (drewN_bu (Below.refl _ _) nq)⟩
    generalize w4.drewN nq = w6 at *
    go_wp2_with (first
      | (go_at_call 13; refine Calls.mono (HWo.out _ _ _ _ _ HS6.out.2.1 HS6.out.2.2.1) ?_; rintro e w7 ⟨rfl, hb⟩; have HS7 : Hid (Below w.heap.size w w7 ∧ BsAt w7 a3 DL ∧ BsAt w7 a4 DL) := ⟨HS6.out.1.trans (hb.mono HS6.out.1.size), HS6.out.2.2.2.1.below hb, HS6.out.2.2.2.2.below hb⟩; clear hb)
      | (go_at_call 14; refine Calls.mono (HSa.out _ _ _ _ _ HS7.out.2.1 HS7.out.2.2) ?_; rintro e w8 ⟨rfl, hb⟩; have HS8 : Hid (Below w.heap.size w w8) := HS7.out.1.trans (hb.mono HS7.out.1.size); clear hb)
      | (go_at_call 15; refine Calls.mono (HK.out _ HS8.out) ?_; rintro e w9 ⟨rfl, hb9⟩; have HS9 : Hid (Below w.heap.size w w9) := HS8.out.trans (hb9.mono HS8.out.size); clear hb9))
    go_ret
    exact ⟨rfl, HS9.out⟩
  · have hl1 : (0 : Int) < (ls.length : Int) := by omega
    obtain ⟨lb, f, rfl, hz0, hxc⟩ := HBs.out.is (by omega)
    obtain ⟨p, hN0, hB⟩ := hxc 0 (by omega)
    rw [Nat.zero_mul, Nat.add_zero] at hN0
    have HB : Hid (BnIn w (ls[0]'(by omega)) p) := hB
    have HRg : Hid (NAt w4.drew lb f (ls[0]'(by omega)) p ∧ TabAt w4.drew w.heap.size t ∧ lb < w4.drew.heap.size ∧ Below w.heap.size w w4.drew) := ⟨hN0.below HS4.out.2.1.drew hz0, HS4.out.1.below (Below.refl _ _).drew HS4.out.1.lt, Nat.lt_of_lt_of_le hz0 HS4.out.2.1.size, HS4.out.2.1.drew⟩
    have HN0 : Hid (NAt w lb f (ls[0]'(by omega)) p ∧ lb < w.heap.size) := ⟨hN0, hz0⟩
    clear hxc hN0 hB hz0
    generalize ls[0]'(by omega) = x at *
    have H11 : Hid (∀ W, Below w.heap.size w W → Calls Tryd.prog 11 #[bval x p, .agg #[.int .i64 (t.u 0), .int .i64 (t.u 1), .int .i64 (t.u 2), .int .i64 (t.u 3), .int .i64 (t.l 0), .int .i64 (t.l 1), .int .i64 (t.l 2), .int .i64 (t.l 3), .int .i64 (t.b 0), .int .i64 (t.b 1), .int .i64 (t.b 2), .int .i64 (t.b 3), .int .i64 t.d]] W fun e w' => e = .returned (.int .i64 (ckX t x)) ∧ Below W.heap.size W w') := fun W hb => bcheck_any x p t W (HB.out.below hb) (HG.out.below hb HG.out.big)
    have H12 : Hid (∀ W, Below w.heap.size w W → Calls Tryd.prog 12 #[bval x p, .agg #[.int .i64 (t.u 0), .int .i64 (t.u 1), .int .i64 (t.u 2), .int .i64 (t.u 3), .int .i64 (t.l 0), .int .i64 (t.l 1), .int .i64 (t.l 2), .int .i64 (t.l 3), .int .i64 (t.b 0), .int .i64 (t.b 1), .int .i64 (t.b 2), .int .i64 (t.b 3), .int .i64 t.d]] W fun e w' => e = .returned (.int .i64 (ckX t x)) ∧ Below W.heap.size W w') := fun W hb => rcheck_any x p t W (HB.out.below hb)
    generalize ckX t x = ck at *
    have HSd : Hid (Ws w4.drew a1 NN (fun j => EW.getD j 0) ∧ Ws w4.drew a2 NN (fun j => EW.getD j 0) ∧ BsAt w4.drew a3 DL ∧ BsAt w4.drew a4 DL) := ⟨HS4.out.2.2.1.below (Below.refl _ _).drew, HS4.out.2.2.2.1.below (Below.refl _ _).drew, HS4.out.2.2.2.2.1.below (Below.refl _ _).drew, HS4.out.2.2.2.2.2.below (Below.refl _ _).drew⟩
    refine wp_region_held_drew (S := fun W' => NAt W' lb f x p ∧ TabAt W' w.heap.size t ∧ lb < W'.heap.size) (by kernel_rfl) ⟨HRg.out.1, HRg.out.2.1, HRg.out.2.2.1⟩ (fun hHeld => ?_)
    generalize w4.drew = XD at *
    refine wpAnyH_take (i := 0) (v := .slice (some ⟨lb, f, none⟩) ls.length cap) rfl (by kernel_rfl) (by kernel_rfl) (by kernel_rfl) (fun _ _ _ h => h) (Or.inl ⟨by rfl, fun w' hSw => by (go_simp)⟩) hHeld ?_
    simp only [Act.put, List.setIfInBounds_toArray, List.set_cons_zero, List.set_cons_succ, List.getElem_cons_zero, List.getElem_toArray]
    refine wpAnyH_take (i := 1) (v := .int .i64 (ls.length : Int)) rfl (by kernel_rfl) (by kernel_rfl) (by kernel_rfl) (fun _ _ _ h => h) (Or.inl ⟨by rfl, fun w' hSw => by (go_simp)⟩) hHeld ?_
    simp only [Act.put, List.setIfInBounds_toArray, List.set_cons_zero, List.set_cons_succ, List.getElem_cons_zero, List.getElem_cons_succ, List.getElem_toArray]
    refine wpAnyH_take (i := 2) (v := .bool true) rfl (by kernel_rfl) (by kernel_rfl) (by kernel_rfl) (fun _ _ _ h => h) (Or.inl ⟨by rfl, fun w' hSw => by (go_simp; omega)⟩) hHeld ?_
    simp only [Act.put, List.setIfInBounds_toArray, List.set_cons_zero, List.set_cons_succ, List.getElem_cons_zero, List.getElem_cons_succ, List.getElem_toArray]
    refine wpAnyH_take (i := 3) (v := .bool true) rfl (by kernel_rfl) (by kernel_rfl) (by kernel_rfl) (fun _ _ _ h => h) (Or.inl ⟨by rfl, fun w' hSw => by (go_simp)⟩) hHeld ?_
    simp only [Act.put, List.setIfInBounds_toArray, List.set_cons_zero, List.set_cons_succ, List.getElem_cons_zero, List.getElem_cons_succ, List.getElem_toArray]
    refine wpAnyH_take (i := 4) (v := .slice (some ⟨lb, f, none⟩) ls.length cap) rfl (by kernel_rfl) (by kernel_rfl) (by kernel_rfl) (fun _ _ _ h => h) (Or.inl ⟨by rfl, fun w' hSw => by (go_simp)⟩) hHeld ?_
    simp only [Act.put, List.setIfInBounds_toArray, List.set_cons_zero, List.set_cons_succ, List.getElem_cons_zero, List.getElem_cons_succ, List.getElem_toArray]
    refine wpAnyH_take (i := 5) (v := .pointer (some ⟨lb, f, none⟩)) rfl (by kernel_rfl) (by kernel_rfl) (by kernel_rfl) (fun _ _ _ h => h) (Or.inl ⟨by rfl, fun w' hSw => by (go_simp)⟩) hHeld ?_
    simp only [Act.put, List.setIfInBounds_toArray, List.set_cons_zero, List.set_cons_succ, List.getElem_cons_zero, List.getElem_cons_succ, List.getElem_toArray]
    refine wpAnyH_take (i := 6) (v := bval x p) rfl (by kernel_rfl) (by kernel_rfl) (by kernel_rfl) (fun _ _ _ h => h) (Or.inl ⟨by rfl, fun w' hSw => by (have m0 := hSw.1.c 0 (by decide); rw [Nat.add_zero] at m0; have m1 := hSw.1.c 1 (by decide); have m2 := hSw.1.c 2 (by decide); have m3 := hSw.1.c 3 (by decide); have ml := hSw.2.2; clear hSw; go_simp)⟩) hHeld ?_
    simp only [Act.put, List.setIfInBounds_toArray, List.set_cons_zero, List.set_cons_succ, List.getElem_cons_zero, List.getElem_cons_succ, List.getElem_toArray]
    refine wpAnyH_take (i := 7) (v := .agg #[.int .i64 (t.u 0), .int .i64 (t.u 1), .int .i64 (t.u 2), .int .i64 (t.u 3), .int .i64 (t.l 0), .int .i64 (t.l 1), .int .i64 (t.l 2), .int .i64 (t.l 3), .int .i64 (t.b 0), .int .i64 (t.b 1), .int .i64 (t.b 2), .int .i64 (t.b 3), .int .i64 t.d]) rfl (by kernel_rfl) (by kernel_rfl) (by kernel_rfl) (fun _ _ _ h => h) (Or.inl ⟨by rfl, fun w' hSw => by (have k2 := hSw.2.1; have qu0 := k2.cu 0 (by decide); have qu1 := k2.cu 1 (by decide); have qu2 := k2.cu 2 (by decide); have qu3 := k2.cu 3 (by decide); have ql0 := k2.cl 0 (by decide); have ql1 := k2.cl 1 (by decide); have ql2 := k2.cl 2 (by decide); have ql3 := k2.cl 3 (by decide); have qb0 := k2.cb 0 (by decide); have qb1 := k2.cb 1 (by decide); have qb2 := k2.cb 2 (by decide); have qb3 := k2.cb 3 (by decide); have qd := k2.cd; have qz := k2.lt; clear k2; clear hSw; go_simp)⟩) hHeld ?_
    simp only [Act.put, List.setIfInBounds_toArray, List.set_cons_zero, List.set_cons_succ, List.getElem_cons_zero, List.getElem_cons_succ, List.getElem_toArray]
    refine wpAnyH_take (i := 9) (v := .slice (some ⟨lb, f, none⟩) ls.length cap) rfl (by kernel_rfl) (by kernel_rfl) (by kernel_rfl) (fun _ _ _ h => h) (Or.inl ⟨by rfl, fun w' hSw => by (go_simp)⟩) hHeld ?_
    simp only [Act.put, List.setIfInBounds_toArray, List.set_cons_zero, List.set_cons_succ, List.getElem_cons_zero, List.getElem_cons_succ, List.getElem_toArray]
    refine wpAnyH_take (i := 10) (v := .pointer (some ⟨lb, f, none⟩)) rfl (by kernel_rfl) (by kernel_rfl) (by kernel_rfl) (fun _ _ _ h => h) (Or.inl ⟨by rfl, fun w' hSw => by (go_simp)⟩) hHeld ?_
    simp only [Act.put, List.setIfInBounds_toArray, List.set_cons_zero, List.set_cons_succ, List.getElem_cons_zero, List.getElem_cons_succ, List.getElem_toArray]
    refine wpAnyH_take (i := 11) (v := bval x p) rfl (by kernel_rfl) (by kernel_rfl) (by kernel_rfl) (fun _ _ _ h => h) (Or.inl ⟨by rfl, fun w' hSw => by (have m0 := hSw.1.c 0 (by decide); rw [Nat.add_zero] at m0; have m1 := hSw.1.c 1 (by decide); have m2 := hSw.1.c 2 (by decide); have m3 := hSw.1.c 3 (by decide); have ml := hSw.2.2; clear hSw; go_simp)⟩) hHeld ?_
    simp only [Act.put, List.setIfInBounds_toArray, List.set_cons_zero, List.set_cons_succ, List.getElem_cons_zero, List.getElem_cons_succ, List.getElem_toArray]
    refine wpAnyH_take (i := 12) (v := .agg #[.int .i64 (t.u 0), .int .i64 (t.u 1), .int .i64 (t.u 2), .int .i64 (t.u 3), .int .i64 (t.l 0), .int .i64 (t.l 1), .int .i64 (t.l 2), .int .i64 (t.l 3), .int .i64 (t.b 0), .int .i64 (t.b 1), .int .i64 (t.b 2), .int .i64 (t.b 3), .int .i64 t.d]) rfl (by kernel_rfl) (by kernel_rfl) (by kernel_rfl) (fun _ _ _ h => h) (Or.inl ⟨by rfl, fun w' hSw => by (have k2 := hSw.2.1; have qu0 := k2.cu 0 (by decide); have qu1 := k2.cu 1 (by decide); have qu2 := k2.cu 2 (by decide); have qu3 := k2.cu 3 (by decide); have ql0 := k2.cl 0 (by decide); have ql1 := k2.cl 1 (by decide); have ql2 := k2.cl 2 (by decide); have ql3 := k2.cl 3 (by decide); have qb0 := k2.cb 0 (by decide); have qb1 := k2.cb 1 (by decide); have qb2 := k2.cb 2 (by decide); have qb3 := k2.cb 3 (by decide); have qd := k2.cd; have qz := k2.lt; clear k2; clear hSw; go_simp)⟩) hHeld ?_
    simp only [Act.put, List.setIfInBounds_toArray, List.set_cons_zero, List.set_cons_succ, List.getElem_cons_zero, List.getElem_cons_succ, List.getElem_toArray]
    refine wpAnyH_ready (rs := [8]) (by kernel_rfl) (by simp) ?_
    refine AllReadyH.cons rfl (fun K hK => ?_) AllReadyH.nil
    go_simp
    refine Calls.mono (H11.out _ HRg.out.2.2.2) ?_
    rintro e w5 ⟨rfl, hb5⟩
    have HR5 : Hid (NAt w5 lb f x p ∧ TabAt w5 w.heap.size t ∧ lb < w5.heap.size ∧ Below w.heap.size w w5) := ⟨HRg.out.1.below hb5 HRg.out.2.2.1, HRg.out.2.1.below hb5 HRg.out.2.1.lt, Nat.lt_of_lt_of_le HRg.out.2.2.1 hb5.size, HRg.out.2.2.2.trans (hb5.mono HRg.out.2.2.2.size)⟩
    have HSe : Hid (Ws w5 a1 NN (fun j => EW.getD j 0) ∧ Ws w5 a2 NN (fun j => EW.getD j 0) ∧ BsAt w5 a3 DL ∧ BsAt w5 a4 DL) := ⟨HSd.out.1.below hb5, HSd.out.2.1.below hb5, HSd.out.2.2.1.below hb5, HSd.out.2.2.2.below hb5⟩
    clear hb5
    refine hK.out _ _ ⟨HR5.out.1, HR5.out.2.1, HR5.out.2.2.1⟩ (fun hHeld => ?_)
    clear hK K
    refine wpAnyH_ready (rs := [13]) (by kernel_rfl) (by simp) ?_
    refine AllReadyH.cons rfl (fun K hK => ?_) AllReadyH.nil
    go_simp
    refine Calls.mono (H12.out _ HR5.out.2.2.2) ?_
    rintro e w6 ⟨rfl, hb6⟩
    have HS6 : Hid (Below w.heap.size w w6 ∧ Ws w6 a1 NN (fun j => EW.getD j 0) ∧ Ws w6 a2 NN (fun j => EW.getD j 0) ∧ BsAt w6 a3 DL ∧ BsAt w6 a4 DL) := ⟨HR5.out.2.2.2.trans (hb6.mono HR5.out.2.2.2.size), HSe.out.1.below hb6, HSe.out.2.1.below hb6, HSe.out.2.2.1.below hb6, HSe.out.2.2.2.below hb6⟩
    refine hK.out _ _ ⟨HR5.out.1.below hb6 HR5.out.2.2.1, HR5.out.2.1.below hb6 HR5.out.2.1.lt, Nat.lt_of_lt_of_le HR5.out.2.2.1 hb6.size⟩ (fun hHeld => ?_)
    clear hK K hb6
    refine wpAnyH_take (i := 14) (v := .bool false) rfl (by kernel_rfl) (by kernel_rfl) (by kernel_rfl) (fun _ _ _ h => h) (Or.inl ⟨by rfl, fun w' hSw => by (go_simp)⟩) hHeld ?_
    simp only [Act.put, List.setIfInBounds_toArray, List.set_cons_zero, List.set_cons_succ, List.getElem_cons_zero, List.getElem_cons_succ, List.getElem_toArray]
    refine wpAnyH_take (i := 15) (v := .bool false) rfl (by kernel_rfl) (by kernel_rfl) (by kernel_rfl) (fun _ _ _ h => h) (Or.inl ⟨by rfl, fun w' hSw => by (go_simp)⟩) hHeld ?_
    simp only [Act.put, List.setIfInBounds_toArray, List.set_cons_zero, List.set_cons_succ, List.getElem_cons_zero, List.getElem_cons_succ, List.getElem_toArray]
    refine wpAnyH_done (by kernel_rfl) ?_ _
    clear hHeld HR5 HSe HSd HRg
    go_wp2_with (first
      | (go_at_call 13; refine Calls.mono (HWo.out _ _ _ _ _ HS6.out.2.1 HS6.out.2.2.1) ?_; rintro e w7 ⟨rfl, hb⟩; have HS7 : Hid (Below w.heap.size w w7 ∧ BsAt w7 a3 DL ∧ BsAt w7 a4 DL) := ⟨HS6.out.1.trans (hb.mono HS6.out.1.size), HS6.out.2.2.2.1.below hb, HS6.out.2.2.2.2.below hb⟩; clear hb)
      | (go_at_call 14; refine Calls.mono (HSa.out _ _ _ _ _ HS7.out.2.1 HS7.out.2.2) ?_; rintro e w8 ⟨rfl, hb⟩; have HS8 : Hid (Below w.heap.size w w8) := HS7.out.1.trans (hb.mono HS7.out.1.size); clear hb)
      | (go_at_call 15; refine Calls.mono (HK.out _ HS8.out) ?_; rintro e w9 ⟨rfl, hb9⟩; have HS9 : Hid (Below w.heap.size w w9) := HS8.out.trans (hb9.mono HS8.out.size); clear hb9))
    go_ret
    exact ⟨rfl, HS9.out⟩
end Go.Proofs.YtckjioiijmmopaaDoor.Bu
