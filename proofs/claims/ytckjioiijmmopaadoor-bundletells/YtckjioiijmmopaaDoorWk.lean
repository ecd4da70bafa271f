/- What BundleBack and BundleJust answer: true. Conditions: bundles, words and the table's bounds lie in memory. -/
import Derived.Test.YtckjioiijmmopaaDoorWi
import Derived.Test.YtckjioiijmmopaaDoorWj
namespace Go.Proofs.YtckjioiijmmopaaDoor.Bu
open Go.ChangeShapes Go.WideShapes Go.ChangeAt Go.RowKit
open _root_.Go.Proofs.YtckjioiijmmopaaDoor.Op
open _root_.Go.Proofs.YtckjioiijmmopaaDoor.Tb (Tab TabAt Bnds four tabAt_new ckR)
open _root_.Go.Proofs.YtckjioiijmmopaaDoor.So
set_option maxRecDepth 20000

theorem enE_ok {t : Tab} {ls : List Bn} (h : enE t ls = 0) : t.ok = true ∧ ls.length ≤ 65536 ∧ allW t ls = true := by
  unfold enE at h
  cases ht : t.ok
  · rw [ht, if_neg (by decide)] at h; exact absurd h (by decide)
  · rw [ht, if_pos rfl] at h
    by_cases hl : 65536 < ls.length
    · rw [if_pos hl] at h; exact absurd h (by decide)
    · rw [if_neg hl] at h
      cases hw : allW t ls
      · rw [hw] at h; exact absurd h (by decide)
      · exact ⟨rfl, by omega, rfl⟩
theorem enE_in (t : Tab) (ls : List Bn) : 0 ≤ enE t ls ∧ enE t ls ≤ 210 := by
  unfold enE
  split
  · split
    · omega
    · split <;> omega
  · omega
theorem enc_no (ao : Option Addr) (cap : Nat) (ls : List Bn) (t : Tab) (w : World) (hx : BsAt w ao ls) (hG : Bnds w) (h : enE t ls ≠ 0) :
    Calls Tryd.prog 7 #[.slice ao ls.length cap, t.val] w fun e w' => e = .returned (.tuple #[.slice none 0 0, .int .i64 (enE t ls)]) ∧ Below w.heap.size w w' := by
  cases ht : t.ok
  · rw [show enE t ls = 20 by simp [enE, ht]]
    exact enc_table ao cap ls t w hG ht
  · by_cases hl : 65536 < ls.length
    · rw [show enE t ls = 3 by simp [enE, ht, hl]]
      exact enc_long ao cap ls t w hG ht hl
    · cases hw : allW t ls
      · rw [show enE t ls = 210 by simp [enE, ht, hl, hw]]
        have := enc_any ao cap ls t w hx hG ht (by omega)
        unfold EnOut at this
        rw [hw] at this
        exact this
      · exact absurd (by simp [enE, ht, hl, hw]) h
theorem enc_yes (ao : Option Addr) (cap : Nat) (ls : List Bn) (t : Tab) (w : World) (hx : BsAt w ao ls) (hG : Bnds w) (h : enE t ls = 0) :
    Calls Tryd.prog 7 #[.slice ao ls.length cap, t.val] w fun e w' => ∃ b, e = .returned (.tuple #[.slice (some ⟨b, 0, none⟩) (ls.length * ofs t 4) (ls.length * ofs t 4), .int .i64 0]) ∧ Wl w' b (ls.length * ofs t 4) (encW t ls) ∧ w.heap.size ≤ b ∧ Below w.heap.size w w' := by
  obtain ⟨h1, h2, h3⟩ := enE_ok h
  have := enc_any ao cap ls t w hx hG h1 h2
  unfold EnOut at this
  rw [h3] at this
  exact this
theorem deE_in (t : Tab) (v : Nat → Int) (n : Nat) : 0 ≤ deE t v n ∧ deE t v n ≤ 210 := by
  unfold deE
  split
  · split
    · split
      · omega
      · split <;> omega
    · omega
  · omega
theorem deE_ok {t : Tab} {v : Nat → Int} {n : Nat} (h : deE t v n = 0) : t.ok = true ∧ n % ofs t 4 = 0 ∧ n / ofs t 4 ≤ 65536 ∧ deB t v (n / ofs t 4) = true := by
  unfold deE at h
  cases ht : t.ok
  · rw [ht, if_neg (by decide)] at h; exact absurd h (by decide)
  · rw [ht, if_pos rfl] at h
    by_cases hm : n % ofs t 4 = 0
    · rw [if_pos hm] at h
      by_cases hl : 65536 < n / ofs t 4
      · rw [if_pos hl] at h; exact absurd h (by decide)
      · rw [if_neg hl] at h
        cases hw : deB t v (n / ofs t 4)
        · rw [hw] at h; exact absurd h (by decide)
        · exact ⟨rfl, hm, by omega, rfl⟩
    · rw [if_neg hm] at h; exact absurd h (by decide)
theorem dec_no (ao : Option Addr) (n cap : Nat) (v : Nat → Int) (t : Tab) (w : World) (hx : Ws w ao n v) (hc : n ≤ cap) (hG : Bnds w) (hn : n ≤ 17592186044416) (h : deE t v n ≠ 0) :
    Calls Tryd.prog 9 #[.slice ao n cap, t.val] w fun e w' => e = .returned (.tuple #[.slice none 0 0, .int .i64 (deE t v n)]) ∧ Below w.heap.size w w' := by
  cases ht : t.ok
  · rw [show deE t v n = 20 by simp [deE, ht]]
    exact dec_table ao n cap t w hG ht
  · by_cases hm : n % ofs t 4 = 0
    · by_cases hl : 65536 < n / ofs t 4
      · rw [show deE t v n = 3 by simp [deE, ht, hl, hm]]
        exact dec_long ao n cap t w hG ht hn hm hl
      · cases hw : deB t v (n / ofs t 4)
        · rw [show deE t v n = 210 by simp [deE, ht, hl, hw, hm]]
          have := dec_any ao n cap v t w hx hc hG ht hn hm (by omega)
          unfold DeOut at this
          rw [hw] at this
          exact this
        · exact absurd (by simp [deE, ht, hl, hw, hm]) h
    · rw [show deE t v n = 210 by simp [deE, ht, hm]]
      exact dec_odd ao n cap t w hG ht hn hm
theorem dec_yes (ao : Option Addr) (n cap : Nat) (v : Nat → Int) (t : Tab) (w : World) (hx : Ws w ao n v) (hc : n ≤ cap) (hG : Bnds w) (hn : n ≤ 17592186044416) (h : deE t v n = 0) :
    Calls Tryd.prog 9 #[.slice ao n cap, t.val] w fun e w' => ∃ b, e = .returned (.tuple #[.slice (some ⟨b, 0, none⟩) (n / ofs t 4) (n / ofs t 4), .int .i64 0]) ∧ BsAt w' (some ⟨b, 0, none⟩) (deL t v (n / ofs t 4)) ∧ Below w.heap.size w w' := by
  obtain ⟨h1, h2, h3, h4⟩ := deE_ok h
  have := dec_any ao n cap v t w hx hc hG h1 hn h2 h3
  unfold DeOut at this
  rw [h4] at this
  exact this
set_option maxHeartbeats 2000000 in
theorem law_back (ao : Option Addr) (cap : Nat) (ls : List Bn) (t : Tab) (w : World) (hx : BsAt w ao ls) (hG : Bnds w) :
    Calls Tryd.prog 4 #[.slice ao ls.length cap, t.val] w fun e w' => e = .returned (.bool true) ∧ Below w.heap.size w w' := by
  have HK : Hid (∀ W, Below w.heap.size w W → Calls Tryd.prog 15 #[] W fun e w' => e = .returned (.bool true) ∧ Below W.heap.size W w') := fun W hb => wakes_any W (hG.below hb hG.big)
  by_cases he : enE t ls = 0
  · have HE : Hid (∀ W, Below w.heap.size w W → Calls Tryd.prog 7 #[.slice ao ls.length cap, t.val] W fun e w' => ∃ b, e = .returned (.tuple #[.slice (some ⟨b, 0, none⟩) (ls.length * ofs t 4) (ls.length * ofs t 4), .int .i64 0]) ∧ Wl w' b (ls.length * ofs t 4) (encW t ls) ∧ W.heap.size ≤ b ∧ Below W.heap.size W w') := fun W hb => enc_yes ao cap ls t W (hx.below hb) (hG.below hb hG.big) he
    obtain ⟨h1, h2, h3⟩ := enE_ok he
    have HWd : Hid (∀ W, Below w.heap.size w W → Calls Tryd.prog 16 #[t.val] W fun e w' => e = .returned (.int .i64 (ofs t 4 : Int)) ∧ Below W.heap.size W w') := fun W hb => width_any t W (hG.below hb hG.big) h1
    have h32 := ofs_le h1
    have HOk : Hid (∀ y ∈ encW t ls, 0 ≤ y ∧ y < 18446744073709551616) := enc_in (bs_ok hx) h3
    by_cases hw0 : ofs t 4 = 0
    · rw [hw0] at HE HWd
      rw [Nat.mul_zero] at HE
      clear hw0 h32 h1 h2 h3 he hG hx
      unfold Tab.val at *
      go_enter Tryd.func4, Tryd.ntmps4
      go_wp2_with (first
        | (go_at_call 7; refine Calls.mono (HE.out _ (by go_grown)) ?_; rintro e w1 ⟨b, rfl, -, -, hb⟩; have HS1 : Hid (TabAt w1 w.heap.size t ∧ Below w.heap.size w w1) := ⟨(tabAt_new w t 26).below hb (by simp), (by go_grown : Below w.heap.size w (w.alloc (.cells t.cells 26))).trans (hb.mono (by simp))⟩; clear hb; have k2 := HS1.out.1; have qu0 := k2.cu 0 (by decide); have qu1 := k2.cu 1 (by decide); have qu2 := k2.cu 2 (by decide); have qu3 := k2.cu 3 (by decide); have ql0 := k2.cl 0 (by decide); have ql1 := k2.cl 1 (by decide); have ql2 := k2.cl 2 (by decide); have ql3 := k2.cl 3 (by decide); have qb0 := k2.cb 0 (by decide); have qb1 := k2.cb 1 (by decide); have qb2 := k2.cb 2 (by decide); have qb3 := k2.cb 3 (by decide); have qd := k2.cd; have qz := k2.lt; clear k2)
        | (go_at_call 16; refine Calls.mono (HWd.out _ HS1.out.2) ?_; rintro e w2 ⟨rfl, hb⟩; have HS2 : Hid (Below w.heap.size w w2) := HS1.out.2.trans (hb.mono HS1.out.2.size); clear hb)
        | (go_at_call 15; refine Calls.mono (HK.out _ HS2.out) ?_; rintro e w9 ⟨rfl, hb9⟩; have HS9 : Hid (Below w.heap.size w w9) := HS2.out.trans (hb9.mono HS2.out.size); clear hb9))
      go_ret
      exact ⟨rfl, HS9.out⟩
    · have hwp : 0 < ofs t 4 := by omega
      have hNb : ls.length * ofs t 4 ≤ 2097152 := Nat.mul_le_mul h2 h32
      have hdiv : ls.length * ofs t 4 / ofs t 4 = ls.length := Nat.mul_div_cancel _ hwp
      obtain ⟨d1, d2⟩ := de_back (t := t) (ls := ls) (v := fun j => (encW t ls).getD j 0) (bs_ok hx) h3 (fun j _ => rfl)
      have hde : deE t (fun j => (encW t ls).getD j 0) (ls.length * ofs t 4) = 0 := by
        unfold deE
        rw [h1, hdiv, d1, Nat.mul_mod_left, if_pos rfl, if_pos rfl, if_neg (by omega), if_pos rfl]
      have HD : Hid (∀ b W, Below w.heap.size w W → Wl W b (ls.length * ofs t 4) (encW t ls) → Calls Tryd.prog 9 #[.slice (some ⟨b, 0, none⟩) (ls.length * ofs t 4) (ls.length * ofs t 4), t.val] W fun e w' => ∃ b, e = .returned (.tuple #[.slice (some ⟨b, 0, none⟩) ls.length ls.length, .int .i64 0]) ∧ BsAt w' (some ⟨b, 0, none⟩) (deL t (fun j => (encW t ls).getD j 0) ls.length) ∧ Below W.heap.size W w') := fun b W hb hl => by
        have := dec_yes (some ⟨b, 0, none⟩) (ls.length * ofs t 4) (ls.length * ofs t 4) (fun j => (encW t ls).getD j 0) t W (hl.ws HOk.out) (Nat.le_refl _) (hG.below hb hG.big) (by omega) hde
        rw [hdiv] at this
        exact this
      have HSa : Hid (∀ b W, Below w.heap.size w W → BsAt W (some ⟨b, 0, none⟩) (deL t (fun j => (encW t ls).getD j 0) ls.length) → Calls Tryd.prog 14 #[.slice (some ⟨b, 0, none⟩) ls.length ls.length, .slice ao ls.length cap] W fun e w' => e = .returned (.bool true) ∧ Below W.heap.size W w') := fun b W hb hB => by
        have := same_any (some ⟨b, 0, none⟩) ao ls.length cap (deL t (fun j => (encW t ls).getD j 0) ls.length) ls true W hB (hx.below hb) ⟨fun _ => d2, fun _ => rfl⟩
        rw [deL_len] at this
        exact this
      obtain ⟨NN, hNN⟩ : ∃ NN, ls.length * ofs t 4 = NN := ⟨_, rfl⟩
      have hmul : (ls.length : Int) * (ofs t 4 : Int) = (NN : Int) := by rw [← hNN]; simp
      have hll : (ls.length : Int) ≤ 65536 := by omega
      rw [hNN] at HE HD hNb
      clear hNN hde d1 d2 hdiv h1 h2 h3 he hG hx hw0
      generalize ofs t 4 = wd at *
      have hNi : (NN : Int) ≤ 2097152 := by omega
      have hw1 : ((wd : Int) == 0) = false := by simp; omega
      unfold Tab.val at *
      go_enter Tryd.func4, Tryd.ntmps4
      go_upto_region 7 with (first
        | (go_at_call 7; refine Calls.mono (HE.out _ (by go_grown)) ?_; rintro e w1 ⟨b, rfl, hwl, -, hb⟩; have HS1 : Hid (TabAt w1 w.heap.size t ∧ Below w.heap.size w w1 ∧ Wl w1 b NN (encW t ls)) := ⟨(tabAt_new w t 26).below hb (by simp), (by go_grown : Below w.heap.size w (w.alloc (.cells t.cells 26))).trans (hb.mono (by simp)), hwl⟩; clear hb hwl HE; have k2 := HS1.out.1; have qu0 := k2.cu 0 (by decide); have qu1 := k2.cu 1 (by decide); have qu2 := k2.cu 2 (by decide); have qu3 := k2.cu 3 (by decide); have ql0 := k2.cl 0 (by decide); have ql1 := k2.cl 1 (by decide); have ql2 := k2.cl 2 (by decide); have ql3 := k2.cl 3 (by decide); have qb0 := k2.cb 0 (by decide); have qb1 := k2.cb 1 (by decide); have qb2 := k2.cb 2 (by decide); have qb3 := k2.cb 3 (by decide); have qd := k2.cd; have qz := k2.lt; clear k2)
        | (go_at_call 16; refine Calls.mono (HWd.out _ HS1.out.2.1) ?_; rintro e w2 ⟨rfl, hb⟩; have HS2 : Hid (TabAt w2 w.heap.size t ∧ Below w.heap.size w w2 ∧ Wl w2 b NN (encW t ls)) := ⟨HS1.out.1.below hb HS1.out.1.lt, HS1.out.2.1.trans (hb.mono HS1.out.2.1.size), HS1.out.2.2.up hb⟩; clear hb qu0 qu1 qu2 qu3 ql0 ql1 ql2 ql3 qb0 qb1 qb2 qb3 qd qz; have k2 := HS2.out.1; have qu0 := k2.cu 0 (by decide); have qu1 := k2.cu 1 (by decide); have qu2 := k2.cu 2 (by decide); have qu3 := k2.cu 3 (by decide); have ql0 := k2.cl 0 (by decide); have ql1 := k2.cl 1 (by decide); have ql2 := k2.cl 2 (by decide); have ql3 := k2.cl 3 (by decide); have qb0 := k2.cb 0 (by decide); have qb1 := k2.cb 1 (by decide); have qb2 := k2.cb 2 (by decide); have qb3 := k2.cb 3 (by decide); have qd := k2.cd; have qz := k2.lt; clear k2)
        | (go_at_call 9; refine Calls.mono (HD.out _ _ HS2.out.2.1 HS2.out.2.2) ?_; rintro e w3 ⟨b3, rfl, hB3, hb⟩; have HS3 : Hid (TabAt w3 w.heap.size t ∧ Below w.heap.size w w3 ∧ BsAt w3 (some ⟨b3, 0, none⟩) (deL t (fun j => (encW t ls).getD j 0) ls.length)) := ⟨HS2.out.1.below hb HS2.out.1.lt, HS2.out.2.1.trans (hb.mono HS2.out.2.1.size), hB3⟩; clear hb hB3 qu0 qu1 qu2 qu3 ql0 ql1 ql2 ql3 qb0 qb1 qb2 qb3 qd qz HD))
      clear HS1 HS2
      go_wp2_with (first
        | (go_at_call 14; refine Calls.mono (HSa.out _ _ HS3.out.2.1 HS3.out.2.2) ?_; rintro e w4 ⟨rfl, hb⟩; have HS4 : Hid (TabAt w4 w.heap.size t ∧ Below w.heap.size w w4) := ⟨HS3.out.1.below hb HS3.out.1.lt, HS3.out.2.1.trans (hb.mono HS3.out.2.1.size)⟩; clear hb; have k2 := HS4.out.1; have qu0 := k2.cu 0 (by decide); have qu1 := k2.cu 1 (by decide); have qu2 := k2.cu 2 (by decide); have qu3 := k2.cu 3 (by decide); have ql0 := k2.cl 0 (by decide); have ql1 := k2.cl 1 (by decide); have ql2 := k2.cl 2 (by decide); have ql3 := k2.cl 3 (by decide); have qb0 := k2.cb 0 (by decide); have qb1 := k2.cb 1 (by decide); have qb2 := k2.cb 2 (by decide); have qb3 := k2.cb 3 (by decide); have qd := k2.cd; have qz := k2.lt; clear k2)
        | (go_at_call 16; refine Calls.mono (HWd.out _ HS4.out.2) ?_; rintro e w5 ⟨rfl, hb⟩; have HS5 : Hid (Below w.heap.size w w5) := HS4.out.2.trans (hb.mono HS4.out.2.size); clear hb qu0 qu1 qu2 qu3 ql0 ql1 ql2 ql3 qb0 qb1 qb2 qb3 qd qz)
        | (go_at_call 15; refine Calls.mono (HK.out _ HS5.out) ?_; rintro e w9 ⟨rfl, hb9⟩; have HS9 : Hid (Below w.heap.size w w9) := HS5.out.trans (hb9.mono HS5.out.size); clear hb9))
      go_ret
      exact ⟨rfl, HS9.out⟩
  · have HE : Hid (∀ W, Below w.heap.size w W → Calls Tryd.prog 7 #[.slice ao ls.length cap, t.val] W fun e w' => e = .returned (.tuple #[.slice none 0 0, .int .i64 (enE t ls)]) ∧ Below W.heap.size W w') := fun W hb => enc_no ao cap ls t W (hx.below hb) (hG.below hb hG.big) he
    have he' : (enE t ls != 0) = true := by simpa using he
    have hi := enE_in t ls
    obtain ⟨i0, i1⟩ := hi
    clear he hG hx
    generalize enE t ls = er at *
    unfold Tab.val at *
    go_enter Tryd.func4, Tryd.ntmps4
    go_wp2_with (first
      | (go_at_call 7; refine Calls.mono (HE.out _ (by go_grown)) ?_; rintro e w1 ⟨rfl, hb⟩; have HS1 : Hid (TabAt w1 w.heap.size t ∧ Below w.heap.size w w1) := ⟨(tabAt_new w t 26).below hb (by simp), (by go_grown : Below w.heap.size w (w.alloc (.cells t.cells 26))).trans (hb.mono (by simp))⟩; clear hb)
      | (go_at_call 15; refine Calls.mono (HK.out _ HS1.out.2) ?_; rintro e w9 ⟨rfl, hb9⟩; have HS9 : Hid (Below w.heap.size w w9) := HS1.out.2.trans (hb9.mono HS1.out.2.size); clear hb9))
    go_ret
    exact ⟨rfl, HS9.out⟩
end Go.Proofs.YtckjioiijmmopaaDoor.Bu
